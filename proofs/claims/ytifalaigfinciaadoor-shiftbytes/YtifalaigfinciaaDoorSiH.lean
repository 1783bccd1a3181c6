/- Entries that are laid one behind the other, their tags elsewhere. -/
import Derived.Test.YtifalaigfinciaaDoorSiD
namespace Go.Proofs.YtifalaigfinciaaDoor
open Go.RowKit

theorem Tl.keep {w w' : World} {v : Value} {l : List Tg} (h : Tl w v l) (hs : w.heap.size ≤ w'.heap.size) (hb : l ≠ [] → ∀ k, v.ownBlock = Option.some k → w'.heap[k]? = w.heap[k]?) : Tl w' v l := by
  rcases h with h | ⟨b, o, cap, rfl, hlt, h⟩
  · exact .inl h
  · by_cases hl : l = []
    · subst hl; exact .inl ⟨rfl, _, _, rfl⟩
    · have hk := hb hl b rfl
      exact .inr ⟨b, o, cap, rfl, Nat.lt_of_lt_of_le hlt hs, fun i t ht => ⟨(World.cell?_of_block (a := ⟨b, o + i * 2, none⟩) hk).trans (h i t ht).1, (World.cell?_of_block (a := ⟨b, o + i * 2 + 1, none⟩) hk).trans (h i t ht).2⟩⟩
theorem Tl.lt {w : World} {v : Value} {l : List Tg} (h : Tl w v l) (hl : l ≠ []) : ∀ q, v.ownBlock = Option.some q → q < w.heap.size := by
  rcases h with ⟨h, _⟩ | ⟨b, o, cap, rfl, hlt, _⟩
  · exact absurd h hl
  · intro q hq
    have : b = q := by simpa [Value.ownBlock] using hq
    omega
/-- An entry, and where its tags lie. -/
abbrev Rq := Bq × Option Addr × Nat
def tgV (r : Rq) : Value := .slice r.2.1 r.1.T.length r.2.2
def m5 (r : Rq) : List Value := [.int .i64 r.1.n, .int .i64 r.1.v, .string (bs r.1.x), .int .i64 r.1.g, tgV r]
/-- v is a row of its own of these entries; their tags lie elsewhere, from base on. -/
def Rw (base : Nat) (e : TypeId) (w : World) (v : Value) (R : List Rq) : Prop :=
  w.ownsRow base e 5 v R.length (R.flatMap m5) ∧ ∀ r ∈ R, Tl w (tgV r) r.1.T ∧ (r.1.T ≠ [] → ∀ q, (tgV r).ownBlock = some q → base ≤ q ∧ v.ownBlock ≠ some q)
theorem Rw.nil (base : Nat) (e : TypeId) (w : World) : Rw base e w (.slice none 0 0) [] := ⟨World.ownsRow_nil _ _ _ _, by simp⟩
theorem Rw.below {base : Nat} {e : TypeId} {w w' : World} {v : Value} {R : List Rq} (h : Rw base e w v R) (hb : Below w.heap.size w w') : Rw base e w' v R :=
  ⟨own_kept h.1 hb, fun r hr => ⟨(h.2 r hr).1.below hb (Nat.le_refl _), (h.2 r hr).2⟩⟩
theorem Rw.set {base : Nat} {e : TypeId} {w : World} {v : Value} {R : List Rq} (h : Rw base e w v R) {B : Nat} (hB : B < base) (j : Nat) (u : Value) : Rw base e (w.setCell ⟨B, j, none⟩ u) v R :=
  ⟨owns_set h.1 hB j u, fun r hr => ⟨(h.2 r hr).1.keep (by simp [World.setCell]) (fun hl k hk => Below.heap_setCell _ _ _ _ (by have := ((h.2 r hr).2 hl k hk).1; show k ≠ B; omega)), (h.2 r hr).2⟩⟩
theorem Rw.snoc {base : Nat} {e : TypeId} {w w' : World} {v : Value} {R : List Rq} (h : Rw base e w v R) (r : Rq) (hT : Tl w (tgV r) r.1.T) (hq : r.1.T ≠ [] → ∀ q, (tgV r).ownBlock = some q → base ≤ q ∧ v.ownBlock ≠ some q) {g cap H : Nat}
    (hown : w'.ownsRow base e 5 (.slice (some ⟨g, 0, none⟩) (R.length + 1) cap) (R.length + 1) (R.flatMap m5 ++ m5 r)) (hg : w.grownBy w' v.ownBlock) (hat : v.ownBlock = some g ∨ g = H) (hH : w.heap.size = H) : Rw base e w' (.slice (some ⟨g, 0, none⟩) (R.length + 1) cap) (R ++ [r]) := by
  have key : ∀ r' : Rq, Tl w (tgV r') r'.1.T → (r'.1.T ≠ [] → ∀ q, (tgV r').ownBlock = some q → base ≤ q ∧ v.ownBlock ≠ some q) → Tl w' (tgV r') r'.1.T ∧ (r'.1.T ≠ [] → ∀ q, (tgV r').ownBlock = some q → base ≤ q ∧ (Value.slice (some ⟨g, 0, none⟩) (R.length + 1) cap).ownBlock ≠ some q) := by
    intro r' h1 h2
    refine ⟨h1.keep hg.size (fun hl k hk => hg.block k (h1.lt hl k hk) (fun he => (h2 hl k hk).2 he.symm)), fun hl q hq => ⟨(h2 hl q hq).1, fun he => ?_⟩⟩
    have hgq : g = q := by simpa [Value.ownBlock] using he
    subst hgq
    rcases hat with hat | hat
    · exact (h2 hl g hq).2 hat
    · have := h1.lt hl g hq; omega
  refine ⟨?_, fun r' hr => ?_⟩
  · rw [List.length_append, List.flatMap_append]
    simpa using hown
  · rcases List.mem_append.1 hr with hr | hr
    · exact key r' (h.2 r' hr).1 (h.2 r' hr).2
    · rw [List.mem_singleton] at hr; subst hr
      exact key r' hT hq
theorem Rw.ml {base : Nat} {e : TypeId} {w : World} {v : Value} {R : List Rq} (h : Rw base e w v R) : Ml w.heap.size w v (R.map (·.1)) := by
  by_cases hl : R = []
  · subst hl
    rcases h.1.2 with ⟨rfl, _⟩ | ⟨g, cap, cur, rfl, _⟩
    · exact .inl ⟨rfl, _, _, rfl⟩
    · exact .inl ⟨rfl, _, _, rfl⟩
  · obtain ⟨g, cap, rfl, _, hg, hc⟩ := owns_at h.1 (List.length_pos_iff.2 hl)
    refine .inr ⟨g, 0, cap, by rw [List.length_map], hg, fun i x hx => ?_⟩
    rw [List.getElem?_map] at hx
    obtain ⟨r, hr, rfl⟩ := Option.map_eq_some_iff.1 hx
    have hf := fun j hj => flat_at m5 5 (fun _ => rfl) R i r hr j hj
    refine ⟨r.2.1, r.2.2, ?_, ?_, ?_, ?_, ?_, (h.2 r (List.mem_of_getElem? hr)).1⟩
    · exact hc _ _ (by rw [show 0 + i * 5 = i * 5 + 0 by omega]; exact (hf 0 (by omega)).trans rfl)
    · exact hc _ _ (by rw [show 0 + i * 5 + 1 = i * 5 + 1 by omega]; exact (hf 1 (by omega)).trans rfl)
    · exact hc _ _ (by rw [show 0 + i * 5 + 2 = i * 5 + 2 by omega]; exact (hf 2 (by omega)).trans rfl)
    · exact hc _ _ (by rw [show 0 + i * 5 + 3 = i * 5 + 3 by omega]; exact (hf 3 (by omega)).trans rfl)
    · exact hc _ _ (by rw [show 0 + i * 5 + 4 = i * 5 + 4 by omega]; exact (hf 4 (by omega)).trans rfl)
def put6 (w : World) (B : Nat) (a b c d e f : Value) : World := (((((w.setCell ⟨B, 0, none⟩ a).setCell ⟨B, 1, none⟩ b).setCell ⟨B, 2, none⟩ c).setCell ⟨B, 3, none⟩ d).setCell ⟨B, 4, none⟩ e).setCell ⟨B, 5, none⟩ f
theorem put6_blk {w : World} {B : Nat} {t : TypeId} {x0 x1 x2 x3 x4 x5 : Value} (h : w.heap[B]? = some (.cells #[x0, x1, x2, x3, x4, x5] t)) (a b c d e f : Value) : (put6 w B a b c d e f).heap[B]? = some (.cells #[a, b, c, d, e, f] t) :=
  set1 (set1 (set1 (set1 (set1 (set1 h 0 a) 1 b) 2 c) 3 d) 4 e) 5 f
theorem put6_below {n : Nat} {w w' : World} (h : Below n w w') {B : Nat} (hB : n ≤ B) (a b c d e f : Value) : Below n w (put6 w' B a b c d e f) :=
  (((((h.setCell (p := ⟨B, 0, none⟩) hB a).setCell (p := ⟨B, 1, none⟩) hB b).setCell (p := ⟨B, 2, none⟩) hB c).setCell (p := ⟨B, 3, none⟩) hB d).setCell (p := ⟨B, 4, none⟩) hB e).setCell (p := ⟨B, 5, none⟩) hB f
theorem put6_size (w : World) (B : Nat) (a b c d e f : Value) : (put6 w B a b c d e f).heap.size = w.heap.size := by simp [put6, World.setCell]
theorem put6_far {w : World} {B k : Nat} (hne : k ≠ B) (a b c d e f : Value) : (put6 w B a b c d e f).heap[k]? = w.heap[k]? :=
  (Below.heap_setCell _ _ _ _ hne).trans ((Below.heap_setCell _ _ _ _ hne).trans ((Below.heap_setCell _ _ _ _ hne).trans ((Below.heap_setCell _ _ _ _ hne).trans ((Below.heap_setCell _ _ _ _ hne).trans (Below.heap_setCell _ _ _ _ hne)))))
theorem Tl.put6 {w : World} {v : Value} {T : List Tg} (h : Tl w v T) {B : Nat} (hne : ∀ k, v.ownBlock = Option.some k → T ≠ [] → k ≠ B) (a b c d e f : Value) : Tl (put6 w B a b c d e f) v T :=
  h.keep (by rw [put6_size]; exact Nat.le_refl _) (fun hl k hk => put6_far (hne k hk hl) a b c d e f)
theorem Tl.nil (w : World) : Tl w (.slice none 0 0) [] := .inl ⟨rfl, _, _, rfl⟩
theorem Ml.nil (n : Nat) (w : World) : Ml n w (.slice none 0 0) [] := .inl ⟨rfl, _, _, rfl⟩
theorem Rw.put6 {base : Nat} {e : TypeId} {w : World} {v : Value} {R : List Rq} (h : Rw base e w v R) {B : Nat} (hB : B < base) (x0 x1 x2 x3 x4 x5 : Value) : Rw base e (put6 w B x0 x1 x2 x3 x4 x5) v R :=
  (((((h.set hB 0 x0).set hB 1 x1).set hB 2 x2).set hB 3 x3).set hB 4 x4).set hB 5 x5
/-- What the block of a result holds behind a store of the whole. -/
theorem fin6 {n : Nat} {w W : World} {Q : Nat} {t : TypeId} {x0 x1 x2 x3 x4 x5 : Value} (h : W.heap[Q]? = some (.cells #[x0, x1, x2, x3, x4, x5] t)) (hB : Below n w W) (hn : n ≤ Q) (a b c d e f : Value) :
    (put6 W Q a b c d e f).cell? ⟨Q, 0, none⟩ = some a ∧ (put6 W Q a b c d e f).cell? ⟨Q, 1, none⟩ = some b ∧ (put6 W Q a b c d e f).cell? ⟨Q, 2, none⟩ = some c ∧ (put6 W Q a b c d e f).cell? ⟨Q, 3, none⟩ = some d ∧ (put6 W Q a b c d e f).cell? ⟨Q, 4, none⟩ = some e ∧ (put6 W Q a b c d e f).cell? ⟨Q, 5, none⟩ = some f ∧ Below n w (put6 W Q a b c d e f) :=
  ⟨cellB (put6_blk h a b c d e f) 0 _ rfl, cellB (put6_blk h a b c d e f) 1 _ rfl, cellB (put6_blk h a b c d e f) 2 _ rfl, cellB (put6_blk h a b c d e f) 3 _ rfl, cellB (put6_blk h a b c d e f) 4 _ rfl, cellB (put6_blk h a b c d e f) 5 _ rfl, put6_below hB hn a b c d e f⟩
theorem put6_cell {w : World} {B k j : Nat} (hne : k ≠ B) (a b c d e f : Value) : (put6 w B a b c d e f).cell? ⟨k, j, none⟩ = w.cell? ⟨k, j, none⟩ := World.cell?_of_block (a := ⟨k, j, none⟩) (put6_far hne a b c d e f)
theorem Tryd.info72 : (Tryd.prog.info? 72).map (fun i => (i.zero, i.size, i.bytes)) = some (some (.agg #[.int .i64 0, .int .i64 0, .string ⟨#[]⟩, .int .i64 0, .slice none 0 0]), 5, 64) := by kernel_rfl
theorem Tryd.info55 : (Tryd.prog.info? 55).map (fun i => (i.zero, i.size, i.bytes)) = some (some (.agg #[.int .i64 0, .int .i64 0, .string ⟨#[]⟩, .int .i64 0, .slice none 0 0]), 5, 64) := by kernel_rfl
end Go.Proofs.YtifalaigfinciaaDoor
