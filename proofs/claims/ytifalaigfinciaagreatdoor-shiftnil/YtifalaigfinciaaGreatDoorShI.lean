/- Bits of a set, and lists of changes as they are laid one behind the other. -/
import Derived.Test.YtifalaigfinciaaGreatDoorShH
import Derived.BigQuiet
namespace Go.Proofs.YtifalaigfinciaaGreatDoor
open Go.RowKit
attribute [local go_sem ↓] Go.wp_at_zero Go.wp_at_succ

theorem wrap_small (n : Int) (h0 : 0 ≤ n) (h1 : n ≤ 1) : IntKind.i64.wrap n = n := by
  have : n = 0 ∨ n = 1 := by omega
  rcases this with rfl | rfl <;> decide
theorem ofInt_par (x : Int) : ((BitVec.ofInt 64 x).toNat : Int) % 2 = x % 2 := by
  rw [BitVec.toNat_ofInt]; omega
theorem and_one (x : Int) : bits .and .i64 x 1 = x % 2 := by
  have h : ((BitVec.ofInt 64 x) &&& (BitVec.ofInt 64 1)).toNat = (BitVec.ofInt 64 x).toNat % 2 := by
    rw [BitVec.toNat_and, show (BitVec.ofInt 64 1).toNat = 1 from by decide, Nat.and_one_is_mod]
  show IntKind.i64.wrap (((BitVec.ofInt 64 x) &&& (BitVec.ofInt 64 1)).toNat : Int) = _
  rw [h]
  have := ofInt_par x
  rw [wrap_small _ (by omega) (by omega)]
  omega
/-- A bit. -/
def bitN (s : Int) (k : Nat) : Nat := (s / 2 ^ k % 2).toNat
theorem bitN_le (s : Int) (k : Nat) : bitN s k ≤ 1 := by unfold bitN; omega
theorem bitN_is (s : Int) (k : Nat) : bits .and .i64 (s / 2 ^ k) 1 = (bitN s k : Int) := by
  rw [and_one]; unfold bitN; omega
def cntB (s : Int) : Nat → Nat
  | 0 => 0
  | k + 1 => cntB s k + bitN s k
theorem cntB_le (s : Int) (k : Nat) : cntB s k ≤ k := by
  induction k with
  | zero => simp [cntB]
  | succ k ih => have := bitN_le s k; simp only [cntB]; omega
theorem cnt3 (a b c : Int) (m : Nat) : cntB a m + cntB b m ≤ m + cntB c m ∨ ∃ i, i < m ∧ bitN a i = 1 ∧ bitN b i = 1 ∧ bitN c i = 0 := by
  induction m with
  | zero => left; simp [cntB]
  | succ m ih =>
    rcases ih with ih | ⟨i, h1, h2⟩
    · have := bitN_le a m
      have := bitN_le b m
      by_cases h : bitN a m = 1 ∧ bitN b m = 1 ∧ bitN c m = 0
      · exact .inr ⟨m, by omega, h⟩
      · left
        simp only [cntB]
        have : bitN a m + bitN b m ≤ 1 + bitN c m := by
          by_cases h1 : bitN a m = 1
          · by_cases h2 : bitN b m = 1
            · have : bitN c m ≠ 0 := fun h3 => h ⟨h1, h2, h3⟩
              omega
            · omega
          · omega
        omega
    · exact .inr ⟨i, by omega, h2⟩
/-- Cells of what is laid row by row. -/
theorem flat_at {α : Type} (f : α → List Value) (k : Nat) (hk : ∀ a, (f a).length = k) : ∀ (l : List α) (i : Nat) (a : α), l[i]? = some a → ∀ j, j < k → (l.flatMap f)[i * k + j]? = (f a)[j]?
  | [], i, a, h, _, _ => by simp at h
  | b :: l, 0, a, h, j, hj => by
    simp at h; subst h
    rw [List.flatMap_cons, List.getElem?_append_left (by rw [hk]; omega), Nat.zero_mul, Nat.zero_add]
  | b :: l, i + 1, a, h, j, hj => by
    rw [List.getElem?_cons_succ] at h
    rw [List.flatMap_cons, List.getElem?_append_right (by rw [hk, Nat.add_mul]; omega), hk, show (i + 1) * k + j - k = i * k + j by rw [Nat.add_mul]; omega]
    exact flat_at f k hk l i a h j hj
def c6 (c : Cv) : List Value := [.int .i64 c.v, .int .i64 c.low, .string (bs c.mt), .int .i64 c.mg, .slice c.ma c.mn c.mc, c.bv]
def ccs (L : List Cv) : List Value := L.flatMap c6
theorem ccs_snoc (L : List Cv) (c : Cv) : ccs (L ++ [c]) = ccs L ++ c6 c := by simp [ccs]
theorem ccs_len (L : List Cv) : (ccs L).length = L.length * 6 := by
  induction L with
  | nil => rfl
  | cons c L ih => simp only [ccs, List.flatMap_cons, List.length_append, List.length_cons] at ih ⊢; rw [ih]; simp only [c6, List.length_cons, List.length_nil]; omega
theorem owns_at {w : World} {base n size : Nat} {e : TypeId} {v : Value} {xs : List Value} (h : w.ownsRow base e size v n xs) (hn : 0 < n) : ∃ g cap, v = .slice (some ⟨g, 0, none⟩) n cap ∧ base ≤ g ∧ g < w.heap.size ∧ ∀ m u, xs[m]? = some u → w.cell? ⟨g, m, none⟩ = some u := by
  rcases h.2 with ⟨_, h0⟩ | ⟨g, cap, cur, rfl, h1, h2, h3, h4, h5, h6⟩
  · omega
  · refine ⟨g, cap, rfl, h1, (Array.getElem?_eq_some_iff.1 h2).1, fun m u hm => cellB h2 m u ?_⟩
    rw [← h6, List.getElem?_take] at hm
    split at hm
    · simpa using hm
    · cases hm
theorem Cl.of_owns {w : World} {base m : Nat} {u : Value} {L : List Cv} (h : w.ownsRow base 27 6 u L.length (ccs L)) (hm : w.heap.size ≤ m) (hb : ∀ c ∈ L, Bl m w c.bv c.bl) : Cl m w u L := by
  by_cases hl : L = []
  · subst hl
    rcases h.2 with ⟨rfl, _⟩ | ⟨g, cap, cur, rfl, _⟩
    · exact .inl ⟨rfl, _, _, rfl⟩
    · exact .inl ⟨rfl, _, _, rfl⟩
  · obtain ⟨g, cap, rfl, _, hg, hc⟩ := owns_at h (List.length_pos_iff.2 hl)
    refine .inr ⟨g, 0, cap, rfl, by omega, fun i x hx => ⟨?_, hb x (List.mem_of_getElem? hx)⟩⟩
    have hf := fun j hj => flat_at c6 6 (fun _ => rfl) L i x hx j hj
    refine ⟨?_, ?_, ?_, ?_, ?_, ?_⟩
    · exact hc _ _ (by rw [show 0 + i * 6 = i * 6 + 0 by omega]; exact (hf 0 (by omega)).trans rfl)
    · exact hc _ _ (by rw [show 0 + i * 6 + 1 = i * 6 + 1 by omega]; exact (hf 1 (by omega)).trans rfl)
    · exact hc _ _ (by rw [show 0 + i * 6 + 2 = i * 6 + 2 by omega]; exact (hf 2 (by omega)).trans rfl)
    · exact hc _ _ (by rw [show 0 + i * 6 + 3 = i * 6 + 3 by omega]; exact (hf 3 (by omega)).trans rfl)
    · exact hc _ _ (by rw [show 0 + i * 6 + 4 = i * 6 + 4 by omega]; exact (hf 4 (by omega)).trans rfl)
    · exact hc _ _ (by rw [show 0 + i * 6 + 5 = i * 6 + 5 by omega]; exact (hf 5 (by omega)).trans rfl)
theorem Tryz.info27 : (Tryz.prog.info? 27).map (fun i => (i.zero, i.size, i.bytes)) = some (some (.agg #[.int .i64 0, .int .i64 0, .string ⟨#[]⟩, .int .i64 0, .slice none 0 0, .slice none 0 0]), 6, 88) := by kernel_rfl

/-- A world that has grown. -/
structure Cw (W0 : World) where
  w : World
  h : Below W0.heap.size W0 w
theorem wp_region_grow {P : Program} {id : Nat} {Q : Exit → Act → World → Prop} {a : Act} {w W0 : World} {l : List Oper} (hm : P.follows .mixedOrders = true) (hB : Region.lexB .any l.toArray = true) (hw : Below W0.heap.size W0 w)
    (h : wpQuiet P l.toArray (fun w' => ∃ x : Cw W0, w' = x.w) (fun a' => ∀ w', (∃ x : Cw W0, w' = x.w) → Q .normal a' w') l a) : (Code.region id l.toArray true).wp P Q a w :=
  wp_region_quiet (C := fun w' => ∃ x : Cw W0, w' = x.w) hm hB ⟨⟨_, below_drew hw⟩, rfl⟩ (by simpa using h)
theorem fills_grow (W0 : World) (he : Env W0) : ∀ x : Cw W0, Calls Tryz.prog 5 #[] x.w fun e w'' => e = .returned (.bool true) ∧ ∃ y : Cw W0, w'' = y.w := by
  intro x
  refine (fills_any x.w (he.next x.h)).mono ?_
  rintro e W' ⟨rfl, hb⟩
  exact ⟨rfl, ⟨W', x.h.trans (hb.mono x.h.size)⟩, rfl⟩
end Go.Proofs.YtifalaigfinciaaGreatDoor
