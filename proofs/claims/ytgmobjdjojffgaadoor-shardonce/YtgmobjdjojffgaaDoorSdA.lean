/- A shard in memory; its small functions, walked. -/
import Derived.Test.YtgmobjdjojffgaaDoorTbI
import Derived.Test.YtgmobjdjojffgaaDoorTbQ
import Derived.Deep.MidRow
namespace Go.Proofs.YtgmobjdjojffgaaDoor
open Go.RowKit
attribute [local go_sem ↓] Go.wp_at_zero Go.wp_at_succ

/-- From least to most? -/
def inR (n a b : Int) : Bool := decide (a ≤ n) && decide (n ≤ b)
theorem inR_t {n a b : Int} (h : inR n a b = true) : a ≤ n ∧ n ≤ b := by simpa [inR] using h
theorem inR_f {n a b : Int} (h : inR n a b = false) : n < a ∨ (a ≤ n ∧ b < n) := by simp [inR] at h; omega
set_option maxRecDepth 20000 in
theorem within_any (n a b : Int) (w : World) : Calls Tryd.prog 26 #[.int .i64 n, .int .i64 a, .int .i64 b] w fun e W' => e = .returned (.bool (inR n a b)) ∧ W' = w := by
  by_cases h1 : a ≤ n
  · by_cases h2 : n ≤ b
    · rw [show inR n a b = true by simp [inR, h1, h2]]
      go_enter Tryd.func26, Tryd.ntmps26
      go_wp2
      go_ret
      exact ⟨rfl, rfl⟩
    · rw [show inR n a b = false by simp [inR, h2]]
      have h3 : b < n := by omega
      go_enter Tryd.func26, Tryd.ntmps26
      go_wp2
      go_ret
      exact ⟨rfl, rfl⟩
  · rw [show inR n a b = false by simp [inR, h1]]
    go_enter Tryd.func26, Tryd.ntmps26
    go_wp2
    go_ret
    exact ⟨rfl, rfl⟩
/-- Has a shard of this status a content? -/
def hasC (n : Int) : Bool := n == 1 || n == 2
set_option maxRecDepth 20000 in
theorem holds_any (n : Int) (w : World) : Calls Tryd.prog 27 #[.int .i64 n] w fun e W' => e = .returned (.bool (hasC n)) ∧ W' = w := by
  by_cases h1 : n = 1
  · subst h1
    rw [show hasC 1 = true from rfl]
    go_enter Tryd.func27, Tryd.ntmps27
    go_wp2
    go_ret
    exact ⟨rfl, rfl⟩
  · have e1 : (n == 1) = false := by simpa using h1
    by_cases h2 : n = 2
    · subst h2
      rw [show hasC 2 = true from rfl]
      go_enter Tryd.func27, Tryd.ntmps27
      go_wp2
      go_ret
      exact ⟨rfl, rfl⟩
    · have e2 : (n == 2) = false := by simpa using h2
      rw [show hasC n = false by simp [hasC, e1, e2]]
      go_enter Tryd.func27, Tryd.ntmps27
      go_wp2
      go_ret
      exact ⟨rfl, rfl⟩

/-- What a client's last one was: its number, the error, the value. -/
abbrev La := Int × Int × List UInt8
/-- A shard: its status, its rows, its clients. -/
structure Sh where
  st : Int
  l : List Rw
  c : Nat → La
def la0 : La := (0, 0, [])
def sh0 : Sh := ⟨0, [], fun _ => la0⟩
/-- The clients' cells. -/
def ccs (c : Nat → La) : List Value := (List.range 8).flatMap fun i => [.int .i64 (c i).1, .int .i64 (c i).2.1, .string (bs (c i).2.2)]
theorem ccs_len (c : Nat → La) : (ccs c).length = 24 := by simp [ccs, List.range_succ]
theorem ccs_at (c : Nat → La) (i : Nat) (h : i < 8) : (ccs c)[i * 3]? = some (.int .i64 (c i).1) ∧ (ccs c)[i * 3 + 1]? = some (.int .i64 (c i).2.1) ∧ (ccs c)[i * 3 + 2]? = some (.string (bs (c i).2.2)) := by
  match i, h with
  | 0, _ => exact ⟨rfl, rfl, rfl⟩
  | 1, _ => exact ⟨rfl, rfl, rfl⟩
  | 2, _ => exact ⟨rfl, rfl, rfl⟩
  | 3, _ => exact ⟨rfl, rfl, rfl⟩
  | 4, _ => exact ⟨rfl, rfl, rfl⟩
  | 5, _ => exact ⟨rfl, rfl, rfl⟩
  | 6, _ => exact ⟨rfl, rfl, rfl⟩
  | 7, _ => exact ⟨rfl, rfl, rfl⟩
  | n + 8, h => omega
theorem ccs_one (c : Nat → La) : ∀ v ∈ ccs c, v.oneCell' = true := by
  intro v hv
  simp only [ccs, List.mem_flatMap] at hv
  obtain ⟨i, _, hv⟩ := hv
  simp at hv
  rcases hv with rfl | rfl | rfl <;> rfl
/-- A holding's cells. -/
def hcs (s : Sh) (T : Nat) : List Value := .pointer (if hasC s.st = true then some ⟨T, 0, none⟩ else none) :: ccs s.c
theorem hcs_len (s : Sh) (T : Nat) : (hcs s T).length = 25 := by rw [hcs, List.length_cons, ccs_len]
theorem hcs_one (s : Sh) (T : Nat) : ∀ v ∈ hcs s T, v.oneCell' = true := by
  intro v hv
  rcases List.mem_cons.1 hv with rfl | hv
  · rfl
  · exact ccs_one s.c v hv
/-- A shard in memory; T: its table's block, where it has one. -/
structure ShAt (w : World) (B : Nat) (s : Sh) (T : Nat) (v : Value) : Prop where
  lt : B < w.heap.size
  c0 : w.cell? ⟨B, 0, none⟩ = some (.int .i64 s.st)
  ch : w.rangeAt B 1 (hcs s T)
  fz : ∀ j, w.frozen? ⟨B, j, none⟩ = false
  tab : hasC s.st = true → TabAt w T s.l v ∧ T ≠ B ∧ ∀ k, v.ownBlock = some k → k ≠ B
  zero : hasC s.st = false → s.l = [] ∧ s.c = fun _ => la0
theorem ShAt.keep {w w' : World} {B : Nat} {s : Sh} {T : Nat} {v : Value} (h : ShAt w B s T v) (hs : w.heap.size ≤ w'.heap.size) (h1 : w'.heap[B]? = w.heap[B]?) (h2 : hasC s.st = true → w'.heap[T]? = w.heap[T]? ∧ ∀ k, v.ownBlock = some k → k < w.heap.size → w'.heap[k]? = w.heap[k]?) : ShAt w' B s T v :=
  ⟨Nat.lt_of_lt_of_le h.lt hs, (World.cell?_of_block (w := w) (a := ⟨B, 0, none⟩) h1).trans h.c0, fun j x hx => (World.cell?_of_block (w := w) (a := ⟨B, 1 + j, none⟩) h1).trans (h.ch j x hx), fun j => (World.frozen?_of_block (w := w) (a := ⟨B, j, none⟩) h1).trans (h.fz j), fun hc => ⟨(h.tab hc).1.keep (h2 hc).1 (h2 hc).2, (h.tab hc).2⟩, h.zero⟩
theorem ShAt.on {w w' : World} {B : Nat} {s : Sh} {T : Nat} {v : Value} (h : ShAt w B s T v) (hb : Below w.heap.size w w') : ShAt w' B s T v := h.keep hb.size (hb.block B h.lt) fun hc => ⟨hb.block T (h.tab hc).1.lt, fun k _ hk => hb.block k hk⟩
theorem ShAt.c1 {w : World} {B : Nat} {s : Sh} {T : Nat} {v : Value} (h : ShAt w B s T v) : w.cell? ⟨B, 1, none⟩ = some (.pointer (if hasC s.st = true then some ⟨T, 0, none⟩ else none)) := h.ch 0 _ rfl
theorem ShAt.cc {w : World} {B : Nat} {s : Sh} {T : Nat} {v : Value} (h : ShAt w B s T v) {i : Nat} (hi : i < 8) : w.cell? ⟨B, 2 + i * 3, none⟩ = some (.int .i64 (s.c i).1) ∧ w.cell? ⟨B, 2 + i * 3 + 1, none⟩ = some (.int .i64 (s.c i).2.1) ∧ w.cell? ⟨B, 2 + i * 3 + 2, none⟩ = some (.string (bs (s.c i).2.2)) := by
  obtain ⟨a, b, c⟩ := ccs_at s.c i hi
  have h0 := h.ch (i * 3 + 1) _ (by simpa [hcs] using a)
  have h1 := h.ch (i * 3 + 1 + 1) _ (by simpa [hcs] using b)
  have h2 := h.ch (i * 3 + 2 + 1) _ (by simpa [hcs] using c)
  rw [show 1 + (i * 3 + 1) = 2 + i * 3 by omega] at h0
  rw [show 1 + (i * 3 + 1 + 1) = 2 + i * 3 + 1 by omega] at h1
  rw [show 1 + (i * 3 + 2 + 1) = 2 + i * 3 + 2 by omega] at h2
  exact ⟨h0, h1, h2⟩
/-- The zero shard's cells. -/
def Z24 : Array Value := (List.replicate 8 [Value.int .i64 0, .int .i64 0, .string ⟨#[]⟩]).flatten.toArray
def Z26 : Array Value := #[.int .i64 0, .pointer none] ++ Z24
theorem Tryd.info71 : (Tryd.prog.info? 71).map (fun i => (i.zero, i.size, i.bytes)) = some (some (.agg Z26), 26, 272) := by kernel_rfl
theorem Tryd.zero71 (w : World) : (zeroValue 71).run Tryd.prog w = .ok (.agg Z26) w := by
  obtain ⟨i, hi, hz, _⟩ := info_parts Tryd.info71
  simp [zeroValue, typeInfo, hi, hz]
theorem zero_cells : Z26[0]? = some (.int .i64 0) ∧ ∀ T, ∀ j x, (hcs sh0 T)[j]? = some x → Z26[1 + j]? = some x := by
  refine ⟨rfl, fun T j x hx => ?_⟩
  have hj : j < 25 := by have := (List.getElem?_eq_some_iff.1 hx).1; rw [hcs_len] at this; exact this
  rw [← hx]
  match j, hj with
  | 0, _ => rfl
  | 1, _ => rfl
  | 2, _ => rfl
  | 3, _ => rfl
  | 4, _ => rfl
  | 5, _ => rfl
  | 6, _ => rfl
  | 7, _ => rfl
  | 8, _ => rfl
  | 9, _ => rfl
  | 10, _ => rfl
  | 11, _ => rfl
  | 12, _ => rfl
  | 13, _ => rfl
  | 14, _ => rfl
  | 15, _ => rfl
  | 16, _ => rfl
  | 17, _ => rfl
  | 18, _ => rfl
  | 19, _ => rfl
  | 20, _ => rfl
  | 21, _ => rfl
  | 22, _ => rfl
  | 23, _ => rfl
  | 24, _ => rfl
  | n + 25, h => omega
set_option maxRecDepth 20000 in
theorem sNew_any (w : World) : Calls Tryd.prog 13 #[] w fun e W' => e = .returned (.pointer (some ⟨w.heap.size, 0, none⟩)) ∧ ShAt W' w.heap.size sh0 0 (.slice none 0 0) ∧ Below w.heap.size w W' ∧ W'.heap.size = w.heap.size + 1 := by
  have hz := Tryd.zero71
  have HC := zero_cells
  obtain ⟨Z, hZ⟩ : ∃ Z, Z26 = Z := ⟨_, rfl⟩
  have hzs : Z.size = 26 := by rw [← hZ]; rfl
  have hne : ¬ Z = #[] := fun e => by rw [e] at hzs; cases hzs
  rw [hZ] at hz HC
  have HC' : Hid (_) := HC
  clear hZ HC
  go_enter Tryd.func13, Tryd.ntmps13
  go_wp2
  go_ret
  exact ⟨rfl, ⟨by simp, cellB (heap_alloc_new _ _) 0 _ HC'.out.1, fun j x hx => cellB (heap_alloc_new _ _) _ _ (HC'.out.2 0 j x hx), fun j => frozenB (heap_alloc_new _ _) j, (fun h => by cases h), fun _ => ⟨rfl, rfl⟩⟩, (Below.refl _ _).alloc (Nat.le_refl _) _, by simp⟩
set_option maxRecDepth 20000 in
theorem Status_nil (w : World) : Calls Tryd.prog 21 #[.pointer none] w fun e W' => e = .returned (.int .i64 0) ∧ W' = w := by
  go_enter Tryd.func21, Tryd.ntmps21
  go_wp2
  go_ret
  exact ⟨rfl, rfl⟩
set_option maxRecDepth 20000 in
theorem Status_any {w : World} {B : Nat} {s : Sh} {T : Nat} {v : Value} (h : ShAt w B s T v) : Calls Tryd.prog 21 #[.pointer (some ⟨B, 0, none⟩)] w fun e W' => e = .returned (.int .i64 s.st) ∧ W' = w := by
  have hc := h.c0
  clear h
  go_enter Tryd.func21, Tryd.ntmps21
  go_wp2
  go_ret
  exact ⟨rfl, rfl⟩
end Go.Proofs.YtgmobjdjojffgaaDoor
