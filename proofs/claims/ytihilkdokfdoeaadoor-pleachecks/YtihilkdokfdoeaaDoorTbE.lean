/- Tables: New, Len, place, replace, walked. -/
import Derived.Test.YtihilkdokfdoeaaDoorTbD
namespace Go.Proofs.YtihilkdokfdoeaaDoor
open Go.RowKit
attribute [local go_sem ↓] Go.wp_at_zero Go.wp_at_succ

/-- A table of these rows. -/
structure TabAt (w : World) (B : Nat) (l : List Rw) (v : Value) : Prop where
  blk : ∃ t, w.heap[B]? = some (.cells #[v] t)
  rows : Rs w v l
  own : ∀ k, v.ownBlock = some k → k ≠ B
  ok : Ok l
theorem TabAt.lt {w : World} {B : Nat} {l : List Rw} {v : Value} (h : TabAt w B l v) : B < w.heap.size := by
  obtain ⟨t, h⟩ := h.blk
  exact (Array.getElem?_eq_some_iff.1 h).1
theorem TabAt.cell {w : World} {B : Nat} {l : List Rw} {v : Value} (h : TabAt w B l v) : w.cell? ⟨B, 0, none⟩ = some v := by
  obtain ⟨t, h⟩ := h.blk
  exact cellB h 0 _ rfl
theorem TabAt.frozen {w : World} {B : Nat} {l : List Rw} {v : Value} (h : TabAt w B l v) : w.frozen? ⟨B, 0, none⟩ = false := by
  obtain ⟨t, h⟩ := h.blk
  exact frozenB h 0
theorem TabAt.keep {w w' : World} {B : Nat} {l : List Rw} {v : Value} (h : TabAt w B l v) (h1 : w'.heap[B]? = w.heap[B]?) (h2 : ∀ k, v.ownBlock = some k → k < w.heap.size → w'.heap[k]? = w.heap[k]?) : TabAt w' B l v := by
  obtain ⟨t, hb⟩ := h.blk
  exact ⟨⟨t, h1.trans hb⟩, h.rows.keep h2, h.own, h.ok⟩
theorem TabAt.on {w w' : World} {B : Nat} {l : List Rw} {v : Value} (h : TabAt w B l v) (hb : Below w.heap.size w w') : TabAt w' B l v := h.keep (hb.block B h.lt) fun k _ hk => hb.block k hk

theorem New_any (w : World) : Calls Tryd.prog 65 #[] w fun e W' => e = .returned (.pointer (some ⟨w.heap.size, 0, none⟩)) ∧ TabAt W' w.heap.size [] (.slice none 0 0) ∧ Below w.heap.size w W' ∧ W'.heap.size = w.heap.size + 1 := by
  go_enter Tryd.func65, Tryd.ntmps65
  go_wp2
  go_ret
  exact ⟨rfl, ⟨⟨_, heap_alloc_new _ _⟩, Rs.nil _, fun k hk => (by cases hk), Ok.nil⟩, (Below.refl _ _).alloc (Nat.le_refl _) _, by simp⟩
theorem place_any {w : World} {B : Nat} {l : List Rw} {v : Value} (h : TabAt w B l v) (k : List UInt8) : Calls Tryd.prog 78 #[.pointer (some ⟨B, 0, none⟩), .string (bs k)] w fun e W' => e = .returned (.tuple #[.int .i64 (plc l k), .bool (val? l k).isSome]) ∧ Below w.heap.size w W' := by
  have hc := h.cell
  have hS := Search_any h.rows h.ok.sorted h.ok.len k
  obtain ⟨a, c, rfl, _⟩ := h.rows.slice
  go_enter Tryd.func78, Tryd.ntmps78
  go_wp2_with (go_at_call 87; refine hS.mono ?_; rintro e w1 ⟨rfl, hb1⟩)
  go_ret2
  exact ⟨rfl, hb1⟩

/-- What replace leaves. -/
def RepPost (w : World) (B : Nat) (v : Value) (l' : List Rw) (W' : World) : Prop :=
  ∃ v', (∃ t, W'.heap[B]? = some (.cells #[v'] t)) ∧ Rs W' v' l' ∧ (∀ k, v'.ownBlock = some k → k ≠ B ∧ (v.ownBlock = some k ∨ w.heap.size ≤ k)) ∧ Mv B w W'
theorem rep_end {w w1 w2 : World} {B : Nat} {l l' : List Rw} {v v2 : Value} (h : TabAt w B l v) (h1 : Below w.heap.size w w1) (h2 : Below w.heap.size w1 w2) (hr : Rs w2 v2 l') (ho : ∀ k, v2.ownBlock = some k → v.ownBlock = some k ∨ w.heap.size ≤ k) :
    RepPost w B v l' (w2.setCell ⟨B, 0, none⟩ v2) := by
  obtain ⟨t, hb⟩ := h.blk
  have hB := h.lt
  have h12 := h1.trans h2
  have hne : ∀ k, v2.ownBlock = some k → k ≠ B := fun k hk => by
    rcases ho k hk with e | e
    · exact h.own k e
    · omega
  refine ⟨v2, ⟨t, ?_⟩, hr.keep fun k hk _ => set_far (hne k hk) _ _, fun k hk => ⟨hne k hk, ho k hk⟩, ⟨h12.os, h12.tape, h12.output, by simpa using h12.size, fun k hk hkB => (set_far hkB _ _).trans (h12.block k hk)⟩⟩
  exact setB ((h12.block B hB).trans hb) 0 v2
def HeadR (w : World) (a : Option Addr) (i : Nat) (l ol : List Rw) (v' : Value) (w' : World) : Prop :=
  Below w.heap.size w w' ∧ ol.length ≤ 1 ∧ ∃ a' c', v' = .slice a' (i + ol.length) c' ∧ ((ol = [] ∧ a' = a ∧ c' = i ∧ w' = w) ∨ w'.ownsRow w.heap.size 178 2 v' (i + ol.length) (rcs (l.take i ++ ol)))
def TailR (w w1 : World) (v : Value) (l' : List Rw) (v2 : Value) (w2 : World) : Prop :=
  Below w.heap.size w1 w2 ∧ Rs w2 v2 l' ∧ (∀ k, v2.ownBlock = some k → v.ownBlock = some k ∨ w.heap.size ≤ k) ∧ ∃ a2 n2 c2, v2 = .slice a2 n2 c2
set_option maxRecDepth 20000 in
set_option maxHeartbeats 1000000 in
theorem replace_nil {w : World} {B : Nat} (h : TabAt w B [] (.slice none 0 0)) {x : Value} {ol : List Rw} (hx : Mid w x ol) :
    Calls Tryd.prog 90 #[.pointer (some ⟨B, 0, none⟩), .int .i64 0, .int .i64 0, x] w fun e W' => e = .returned (.tuple #[]) ∧ RepPost w B (.slice none 0 0) ol W' := by
  have hc := h.cell
  have hlt := h.lt
  have hfz := h.frozen
  have HE : Hid (∀ w1 w2 v2, Below w.heap.size w w1 → TailR w w1 (.slice none 0 0) ol v2 w2 → RepPost w B (.slice none 0 0) ol (w2.setCell ⟨B, 0, none⟩ v2)) := fun w1 w2 v2 a b => rep_end h a b.1 b.2.1 b.2.2.1
  have hH : ∃ v' w', (Builtin.append_ #[162, 162] 162 #[.slice none 0 0, x]).run Tryd.prog w = .ok v' w' ∧ HeadR w none 0 [] ol v' w' := head_run (i := 0) h.rows (Nat.le_refl _) (by decide) hx 162 178 Tryd.underlying162 Tryd.info178 162
  have HT : Hid (∀ w1 a' c', HeadR w none 0 [] ol (.slice a' (0 + ol.length) c') w1 → ∃ v2 w2, (Builtin.append_ #[162, 162] 162 #[.slice a' (0 + ol.length) c', .slice none 0 0]).run Tryd.prog w1 = .ok v2 w2 ∧ TailR w w1 (.slice none 0 0) ol v2 w2) := by
    rintro w1 a' c' ⟨hB, hol, a2, c2, e, hh⟩
    cases e
    obtain ⟨v2, w2, h1, h2, h3, h4⟩ := tail_run (c' := c') (j := 0) h.rows (Nat.le_refl _) (Nat.le_refl _) (by decide) hol hB 162 178 Tryd.underlying162 Tryd.info178 hh none (.inl rfl) 0 162
    exact ⟨v2, w2, h1, h2, by simpa using h3, h4⟩
  clear h hx
  go_enter Tryd.func90, Tryd.ntmps90
  go_upto_region 1 with (at_builtin; refine wpList_append_run rfl _ _ 162 rfl (.slice none 0 0) x rfl rfl (HeadR w none 0 [] ol) hH ?_; clear hH; intro v1 w1 h1; obtain ⟨a1, c1, rfl⟩ : ∃ a1 c1, v1 = .slice a1 (0 + ol.length) c1 := by (obtain ⟨_, _, a1, c1, e, _⟩ := h1; exact ⟨a1, c1, e⟩))
  have hT := HT.out _ _ _ h1
  have hb1 := h1.1
  have hc1 := (hb1.cell (p := ⟨B, 0, none⟩) hlt).trans hc
  have hf1 := (hb1.frozen (p := ⟨B, 0, none⟩) hlt).trans hfz
  rw [Nat.zero_add] at hT
  obtain ⟨m1, hm1⟩ : ∃ m, ol.length = m := ⟨_, rfl⟩
  rw [hm1] at hT ⊢
  clear HT h1 hc hfz hm1
  go_wp2_with (at_builtin; refine wpList_append_run rfl _ _ 162 rfl (.slice a1 m1 c1) (.slice none 0 0) rfl rfl (TailR w w1 (.slice none 0 0) ol) hT ?_; clear hT; intro v2 w2 h2; obtain ⟨a2, n2, c2, rfl⟩ := h2.2.2.2; have hc2 := (h2.1.cell (p := ⟨B, 0, none⟩) hlt).trans hc1; have hf2 := (h2.1.frozen (p := ⟨B, 0, none⟩) hlt).trans hf1)
  exact bodyPost_end (v := .tuple #[]) (by simp [results, Tryd.f90]) rfl ⟨rfl, HE.out _ _ _ hb1 h2⟩
set_option maxRecDepth 20000 in
set_option maxHeartbeats 1000000 in
theorem replace_some {w : World} {B g : Nat} {l : List Rw} {c : Nat} (h : TabAt w B l (.slice (some ⟨g, 0, none⟩) l.length c)) (hcap : l.length ≤ c) {i j : Nat} (hi : i ≤ l.length) (hj : j ≤ l.length) {x : Value} {ol : List Rw} (hx : Mid w x ol) :
    Calls Tryd.prog 90 #[.pointer (some ⟨B, 0, none⟩), .int .i64 i, .int .i64 j, x] w fun e W' => e = .returned (.tuple #[]) ∧ RepPost w B (.slice (some ⟨g, 0, none⟩) l.length c) (l.take i ++ ol ++ l.drop j) W' := by
  have hc := h.cell
  have hlt := h.lt
  have hfz := h.frozen
  have hlen := h.ok.len
  obtain ⟨L, hL⟩ : ∃ L, l.take i ++ ol ++ l.drop j = L := ⟨_, rfl⟩
  have HE : Hid (∀ w1 w2 v2, Below w.heap.size w w1 → TailR w w1 (.slice (some ⟨g, 0, none⟩) l.length c) L v2 w2 → RepPost w B (.slice (some ⟨g, 0, none⟩) l.length c) L (w2.setCell ⟨B, 0, none⟩ v2)) := fun w1 w2 v2 a b => rep_end h a b.1 b.2.1 b.2.2.1
  have hH : ∃ v' w', (Builtin.append_ #[162, 162] 162 #[.slice (some ⟨g, 0, none⟩) i i, x]).run Tryd.prog w = .ok v' w' ∧ HeadR w (some ⟨g, 0, none⟩) i l ol v' w' := head_run h.rows hi hlen hx 162 178 Tryd.underlying162 Tryd.info178 162
  obtain ⟨X, hX⟩ : ∃ X : Option Addr, (if c = j then some ⟨g, 0, none⟩ else some ⟨g, j * 2, none⟩) = X := ⟨_, rfl⟩
  have HT : Hid (∀ w1 a' c', HeadR w (some ⟨g, 0, none⟩) i l ol (.slice a' (i + ol.length) c') w1 → ∃ v2 w2, (Builtin.append_ #[162, 162] 162 #[.slice a' (i + ol.length) c', .slice X (l.length - j) (c - j)]).run Tryd.prog w1 = .ok v2 w2 ∧ TailR w w1 (.slice (some ⟨g, 0, none⟩) l.length c) L v2 w2) := by
    rintro w1 a' c' ⟨hB, hol, a2, c2, e, hh⟩
    cases e
    have hX2 : l.length = j ∨ ∃ g', (some ⟨g, 0, none⟩ : Option Addr) = some ⟨g', 0, none⟩ ∧ X = some ⟨g', j * 2, none⟩ := by
      by_cases e : c = j
      · left; omega
      · rw [if_neg e] at hX
        exact .inr ⟨g, rfl, hX.symm⟩
    rw [← hL]
    exact tail_run (c' := c') h.rows hi hj hlen hol hB 162 178 Tryd.underlying162 Tryd.info178 hh X hX2 (c - j) 162
  rw [hL]
  clear h hx hL
  go_enter Tryd.func90, Tryd.ntmps90
  go_upto_region 1 with (at_builtin; refine wpList_append_run rfl _ _ 162 rfl (.slice (some ⟨g, 0, none⟩) i i) x rfl rfl (HeadR w (some ⟨g, 0, none⟩) i l ol) hH ?_; clear hH; intro v1 w1 h1; obtain ⟨a1, c1, rfl⟩ : ∃ a1 c1, v1 = .slice a1 (i + ol.length) c1 := by (obtain ⟨_, _, a1, c1, e, _⟩ := h1; exact ⟨a1, c1, e⟩))
  have hT := HT.out _ _ _ h1
  have hb1 := h1.1
  have hc1 := (hb1.cell (p := ⟨B, 0, none⟩) hlt).trans hc
  have hf1 := (hb1.frozen (p := ⟨B, 0, none⟩) hlt).trans hfz
  obtain ⟨m1, hm1⟩ : ∃ m, i + ol.length = m := ⟨_, rfl⟩
  rw [hm1] at hT ⊢
  clear HT h1 hc hfz hm1
  go_wp2_with (at_builtin; refine wpList_append_run rfl _ _ 162 rfl (.slice a1 m1 c1) (.slice X (l.length - j) (c - j)) rfl rfl (TailR w w1 (.slice (some ⟨g, 0, none⟩) l.length c) L) hT ?_; clear hT; intro v2 w2 h2; obtain ⟨a2, n2, c2, rfl⟩ := h2.2.2.2; have hc2 := (h2.1.cell (p := ⟨B, 0, none⟩) hlt).trans hc1; have hf2 := (h2.1.frozen (p := ⟨B, 0, none⟩) hlt).trans hf1)
  exact bodyPost_end (v := .tuple #[]) (by simp [results, Tryd.f90]) rfl ⟨rfl, HE.out _ _ _ hb1 h2⟩
theorem replace_any {w : World} {B : Nat} {l : List Rw} {v : Value} (h : TabAt w B l v) {i j : Nat} (hi : i ≤ l.length) (hj : j ≤ l.length) {x : Value} {ol : List Rw} (hx : Mid w x ol) :
    Calls Tryd.prog 90 #[.pointer (some ⟨B, 0, none⟩), .int .i64 i, .int .i64 j, x] w fun e W' => e = .returned (.tuple #[]) ∧ RepPost w B v (l.take i ++ ol ++ l.drop j) W' := by
  rcases h.rows with ⟨rfl, rfl⟩ | ⟨g, cap, cur, t, rfl, h2, h3, _⟩
  · simp only [List.length_nil, Nat.le_zero] at hi hj
    subst hi hj
    simpa using replace_nil h hx
  · exact replace_some h h3 hi hj hx
end Go.Proofs.YtihilkdokfdoeaaDoor
