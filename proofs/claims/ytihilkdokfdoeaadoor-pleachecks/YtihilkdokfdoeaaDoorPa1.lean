/- The place of a key: stock.Place, the document's Place. -/
import Derived.Test.YtihilkdokfdoeaaDoorBk9
import Derived.Test.YtihilkdokfdoeaaDoorTdE
import Derived.Test.YtihilkdokfdoeaaDoorTdG
namespace Go.Proofs.YtihilkdokfdoeaaDoor
section
open Go.RowKit
attribute [local go_sem ↓] Go.wp_at_zero Go.wp_at_succ

/-- What the program reads of its package variables. -/
structure EnvK (w : World) : Prop where
  iv : Reads w 0 .u32 8 ivL
  rows : Reads w 1 .u8 160 rowsF
  size : 1 < w.heap.size
theorem EnvK.below {w w' : World} {B : Nat} (h : EnvK w) (hb : Below B w w') (hB : 1 < B) : EnvK w' := ⟨h.iv.below hb (by omega), h.rows.below hb hB, Nat.lt_of_lt_of_le h.size hb.size⟩
theorem EnvK.next {w w' : World} (h : EnvK w) (hb : Below w.heap.size w w') : EnvK w' := h.below hb h.size

/-- The place of a key. -/
def plcK (k : List UInt8) : Nat := ((bl [] k).headD 0).toNat % 4
theorem plcK_lt (k : List UInt8) : plcK k < 4 := Nat.mod_lt _ (by decide)
theorem bl_cons (k : List UInt8) : ∃ c L, bl [] k = c :: L := by
  have h : (bl [] k).length = 32 := by rw [bl, size_list]; exact sum_size _ _
  cases e : bl [] k with
  | nil => rw [e] at h; cases h
  | cons c L => exact ⟨c, L, rfl⟩
theorem plc_mod (c : UInt8) : (c.toNat : Int) % 4 = ((c.toNat % 4 : Nat) : Int) := by omega
set_option maxRecDepth 20000 in
theorem Place_any (k : List UInt8) (w : World) (hk : k.length ≤ 140737488351232) (he : EnvK w) : Calls Tryd.prog 36 #[.string (bs k)] w fun e W' => e = .returned (.int .i64 (plcK k)) ∧ Below w.heap.size w W' := by
  obtain ⟨c, L, hc⟩ := bl_cons k
  have hS := Sum_any ⟨#[]⟩ (bs k) w (by decide) (by rw [bs_size]; omega) he.iv he.rows he.size
  rw [show strOfNums (sumL ((⟨#[]⟩ : ByteArray).size : Int) (keyL (⟨#[]⟩ : ByteArray).data.toList ++ (bs k).data.toList)) = bs (c :: L) by rw [← hc, bl, bs_data, bs_list]; rfl] at hS
  have hi : ∀ W : World, (Instr.index 9 (.string (bs (c :: L))) (.int .i64 0)).run Tryd.prog W = .ok (.int .u8 c.toNat) W := fun W => rfl
  have hm := plc_mod c
  rw [show plcK k = c.toNat % 4 by rw [plcK, hc]; rfl]
  obtain ⟨X, hX⟩ : ∃ X, bs (c :: L) = X := ⟨_, rfl⟩
  obtain ⟨M, hM⟩ : ∃ M : Int, ((c.toNat % 4 : Nat) : Int) = M := ⟨_, rfl⟩
  rw [hX] at hS hi
  rw [hM] at hm ⊢
  clear hX hc hM
  have hc9 := c.toNat_lt
  go_enter Tryd.func36, Tryd.ntmps36
  go_wp2_with (go_at_call 43; refine hS.mono ?_; clear hS; rintro e w1 ⟨rfl, hb1⟩)
  go_ret
  exact ⟨by rw [← hm]; rfl, hb1⟩
set_option maxRecDepth 20000 in
theorem rPlace_any (k : List UInt8) (w : World) (hk : k.length ≤ 140737488351232) : Calls Tryd.prog 21 #[.string (bs k)] w fun e W' => e = .returned (.int .i64 (plcK k)) ∧ Below w.heap.size w W' := by
  obtain ⟨c, L, hc⟩ := bl_cons k
  have hS := rSumL_any [] k w (by decide) hk
  rw [hc] at hS
  have hi : ∀ W : World, (Instr.index 9 (.string (bs (c :: L))) (.int .i64 0)).run Tryd.prog W = .ok (.int .u8 c.toNat) W := fun W => rfl
  have hm := plc_mod c
  rw [show plcK k = c.toNat % 4 by rw [plcK, hc]; rfl]
  obtain ⟨X, hX⟩ : ∃ X, bs (c :: L) = X := ⟨_, rfl⟩
  obtain ⟨M, hM⟩ : ∃ M : Int, ((c.toNat % 4 : Nat) : Int) = M := ⟨_, rfl⟩
  rw [hX] at hS hi
  rw [hM] at hm ⊢
  clear hX hc hM
  have hc9 := c.toNat_lt
  go_enter Tryd.func21, Tryd.ntmps21
  go_wp2_with (go_at_call 35; refine hS.mono ?_; clear hS; rintro e w1 ⟨rfl, hb1⟩)
  go_ret
  exact ⟨by rw [← hm]; rfl, hb1⟩
end
section
open Go.RowKit
attribute [local go_sem ↓] Go.wp_at_zero Go.wp_at_succ

/-- One map: the rows by places. -/
abbrev Ms := Nat → List Rw
def putM (S : Ms) (i : Nat) (l : List Rw) : Ms := fun j => if j = i then l else S j
/-- An operation. -/
structure Opr where
  kind : Int
  k : List UInt8
  v : List UInt8
  o : List UInt8
def Opr.V (o : Opr) : Value := opV o.kind o.k o.v o.o
/-- What one map tells: the text, the error; and the map behind it. -/
def tell (S : Ms) (o : Opr) : List UInt8 × Int := ((doR (S (plcK o.k)) o.kind o.k o.v o.o).1, (doR (S (plcK o.k)) o.kind o.k o.v o.o).2.1)
def next (S : Ms) (o : Opr) : Ms := putM S (plcK o.k) (doR (S (plcK o.k)) o.kind o.k o.v o.o).2.2
def ansV (a : List UInt8 × Int) : Value := .agg #[.int .i64 a.2, .string (bs a.1)]
/-- The tables lie one behind the other, from b on. -/
structure M4 (base : Nat) (w : World) (b : Nat) (S : Ms) (V : Nat → Value) : Prop where
  tab : ∀ i, i < 4 → TabAt w (b + i) (S i) (V i)
  up : base ≤ b
  own : ∀ i, i < 4 → ∀ q, (V i).ownBlock = some q → base ≤ q ∧ q < w.heap.size ∧ ∀ j, j < 4 → q ≠ b + j
def tabV (b : Nat) : Value := .agg #[.pointer (some ⟨b, 0, none⟩), .pointer (some ⟨b + 1, 0, none⟩), .pointer (some ⟨b + 2, 0, none⟩), .pointer (some ⟨b + 3, 0, none⟩)]
theorem M4.on {base : Nat} {w w' : World} {b : Nat} {S : Ms} {V : Nat → Value} (h : M4 base w b S V) (hb : Below w.heap.size w w') : M4 base w' b S V :=
  ⟨fun i hi => (h.tab i hi).on hb, h.up, fun i hi q hq => by obtain ⟨h1, h2, h3⟩ := h.own i hi q hq; exact ⟨h1, Nat.lt_of_lt_of_le h2 hb.size, h3⟩⟩
theorem M4.keep {base : Nat} {w w' : World} {b : Nat} {S : Ms} {V : Nat → Value} (h : M4 base w b S V) (hs : w.heap.size ≤ w'.heap.size) (h1 : ∀ i, i < 4 → w'.heap[b + i]? = w.heap[b + i]?) (h2 : ∀ i, i < 4 → ∀ q, (V i).ownBlock = some q → w'.heap[q]? = w.heap[q]?) : M4 base w' b S V :=
  ⟨fun i hi => (h.tab i hi).keep (h1 i hi) fun q hq _ => h2 i hi q hq, h.up, fun i hi q hq => by obtain ⟨a1, a2, a3⟩ := h.own i hi q hq; exact ⟨a1, Nat.lt_of_lt_of_le a2 hs, a3⟩⟩
/-- What an operation leaves: all blocks but the tables'. -/
structure Mv4 (b : Nat) (w w' : World) : Prop where
  os : w'.os = w.os
  tape : w'.tape = w.tape
  output : w'.output = w.output
  size : w.heap.size ≤ w'.heap.size
  block : ∀ k, k < w.heap.size → (∀ j, j < 4 → k ≠ b + j) → w'.heap[k]? = w.heap[k]?
theorem Mv4.below {b n : Nat} {w w' : World} (h : Mv4 b w w') (h1 : n ≤ b) (h2 : n ≤ w.heap.size) : Below n w w' := ⟨h.os, h.tape, h.output, h.size, fun k hk => h.block k (by omega) fun j _ => by omega⟩
theorem Mv4.after {b : Nat} {w w1 w2 : World} (h : Below w.heap.size w w1) (k : Mv4 b w1 w2) : Mv4 b w w2 :=
  ⟨k.os.trans h.os, k.tape.trans h.tape, k.output.trans h.output, Nat.le_trans h.size k.size, fun i hi h1 => (k.block i (Nat.lt_of_lt_of_le hi h.size) h1).trans (h.block i hi)⟩
theorem Mv4.set {b : Nat} {w w' : World} (h : Mv4 b w w') {x : Nat} (hx : w.heap.size ≤ x) (j : Nat) (v : Value) : Mv4 b w (w'.setCell ⟨x, j, none⟩ v) :=
  ⟨h.os, h.tape, h.output, by rw [World.size_setCell]; exact h.size, fun k hk h1 => (set_far (by omega) _ _).trans (h.block k hk h1)⟩
theorem M4.did {base : Nat} {w W : World} {b p : Nat} {S : Ms} {V : Nat → Value} {l' : List Rw} (h : M4 base w b S V) (hp : p < 4) (hD : DoPost w (b + p) (V p) l' W) : ∃ V', M4 base W b (putM S p l') V' ∧ Mv4 b w W ∧ ∀ i, i < 4 → ∀ q, (V' i).ownBlock = some q → (V i).ownBlock = some q ∨ w.heap.size ≤ q := by
  obtain ⟨v', ht, ho, hm⟩ := hD
  have hlt := (h.tab p hp).lt
  have hbase : base ≤ w.heap.size := by have := h.up; omega
  refine ⟨fun j => if j = p then v' else V j, ⟨fun i hi => ?_, h.up, fun i hi q hq => ?_⟩, ⟨hm.os, hm.tape, hm.output, hm.size, fun k hk h1 => hm.block k hk (h1 p hp)⟩, fun i hi q hq => ?_⟩
  rotate_left 2
  · by_cases e : i = p
    · subst e
      simp only [if_true] at hq
      exact ho q hq
    · simp only [if_neg e] at hq
      exact .inl hq
  · by_cases e : i = p
    · subst e
      simp only [putM, if_true]
      exact ht
    · simp only [putM, if_neg e]
      exact (h.tab i hi).keep (hm.block _ (h.tab i hi).lt (by omega)) fun q hq hl => hm.block q hl ((h.own i hi q hq).2.2 p hp)
  · by_cases e : i = p
    · subst e
      simp only [if_true] at hq
      rcases ho q hq with h1 | h1
      · obtain ⟨a1, a2, a3⟩ := h.own i hi q h1
        exact ⟨a1, Nat.lt_of_lt_of_le a2 hm.size, a3⟩
      · refine ⟨by omega, ht.rows.lt q hq, fun j hj => ?_⟩
        have := (h.tab j hj).lt
        omega
    · simp only [if_neg e] at hq
      obtain ⟨a1, a2, a3⟩ := h.own i hi q hq
      exact ⟨a1, Nat.lt_of_lt_of_le a2 hm.size, a3⟩

theorem set4h {w : World} {B : Nat} {t : TypeId} {fr : Nat × Nat} {x0 x1 x2 x3 : Value} (h : w.heap[B]? = some (.cells #[x0, x1, x2, x3] t fr)) (a0 a1 a2 a3 : Value) :
    ((((w.setCell ⟨B, 0, none⟩ a0).setCell ⟨B, 1, none⟩ a1).setCell ⟨B, 2, none⟩ a2).setCell ⟨B, 3, none⟩ a3).heap[B]? = some (.cells #[a0, a1, a2, a3] t fr) := setB (setB (setB (setB h 0 a0) 1 a1) 2 a2) 3 a3
theorem set2h {w : World} {B : Nat} {t : TypeId} {fr : Nat × Nat} {x0 x1 : Value} (h : w.heap[B]? = some (.cells #[x0, x1] t fr)) (a0 a1 : Value) :
    ((w.setCell ⟨B, 0, none⟩ a0).setCell ⟨B, 1, none⟩ a1).heap[B]? = some (.cells #[a0, a1] t fr) := setB (setB h 0 a0) 1 a1
def pc (N k j : Nat) : Value := .pointer (if j < k then some ⟨N + j, 0, none⟩ else none)
def pcs (N k : Nat) : Array Value := #[pc N k 0, pc N k 1, pc N k 2, pc N k 3]
theorem pcs_at (N k : Nat) (h : k < 4) : (pcs N k)[k]? = some (.pointer none) := by
  rcases k with _ | _ | _ | _ | k
  · rfl
  · rfl
  · rfl
  · rfl
  · omega
theorem pcs_set (N k : Nat) (h : k < 4) : (pcs N k).setIfInBounds k (.pointer (some ⟨N + k, 0, none⟩)) = pcs N (k + 1) := by
  rcases k with _ | _ | _ | _ | k
  · rfl
  · rfl
  · rfl
  · rfl
  · omega
set_option maxRecDepth 20000 in
set_option maxHeartbeats 1500000 in
theorem newTables_any (w : World) : Calls Tryd.prog 58 #[] w fun e W' => ∃ b, e = .returned (tabV b) ∧ M4 w.heap.size W' b (fun _ => []) (fun _ => .slice none 0 0) ∧ Below w.heap.size w W' := by
  go_enter Tryd.func58, Tryd.ntmps58
  go_wp2
  obtain ⟨N, hN⟩ : ∃ N, w.heap.size = N := ⟨_, rfl⟩
  have nB : Below w.heap.size w ((w.alloc (.cells #[.pointer none, .pointer none, .pointer none, .pointer none] 129)).alloc (.cells #[.pointer none, .pointer none, .pointer none, .pointer none] 129)) := ((Below.refl _ w).alloc (Nat.le_refl _) _).alloc (by simp) _
  have n0 : ((w.alloc (.cells #[.pointer none, .pointer none, .pointer none, .pointer none] 129)).alloc (.cells #[.pointer none, .pointer none, .pointer none, .pointer none] 129)).heap[w.heap.size]? = some (.cells #[.pointer none, .pointer none, .pointer none, .pointer none] 129) :=
    ((Below.refl (w.heap.size + 1) (w.alloc (.cells #[.pointer none, .pointer none, .pointer none, .pointer none] 129))).alloc (by simp) _).block w.heap.size (by omega) |>.trans (heap_alloc_new _ _)
  have n1 : ((w.alloc (.cells #[.pointer none, .pointer none, .pointer none, .pointer none] 129)).alloc (.cells #[.pointer none, .pointer none, .pointer none, .pointer none] 129)).heap[w.heap.size + 1]? = some (.cells (pcs (w.heap.size + 2) 0) 129) := by
    have := heap_alloc_new (w.alloc (.cells #[.pointer none, .pointer none, .pointer none, .pointer none] 129)) (.cells #[.pointer none, .pointer none, .pointer none, .pointer none] 129)
    rw [show pcs (w.heap.size + 2) 0 = #[.pointer none, .pointer none, .pointer none, .pointer none] from rfl]
    rw [show (w.alloc (.cells #[.pointer none, .pointer none, .pointer none, .pointer none] 129)).heap.size = w.heap.size + 1 by simp] at this
    exact this
  have nz : ((w.alloc (.cells #[.pointer none, .pointer none, .pointer none, .pointer none] 129)).alloc (.cells #[.pointer none, .pointer none, .pointer none, .pointer none] 129)).heap.size = w.heap.size + 2 := by simp
  rw [hN] at nB n0 n1 nz ⊢
  obtain ⟨W0, hW0⟩ : ∃ W0, (w.alloc (.cells #[.pointer none, .pointer none, .pointer none, .pointer none] 129)).alloc (.cells #[.pointer none, .pointer none, .pointer none, .pointer none] 129) = W0 := ⟨_, rfl⟩
  rw [hW0] at nB n0 n1 nz ⊢
  have HN : Hid (w.heap.size = N) := hN
  have HB : Hid (Below N w W0) := nB
  clear hW0 hN nB
  go_loopw [3] (fun i wr => ∃ (k : Nat), k ≤ 4 ∧ i = .int .i64 k ∧ wr.heap.size = N + 2 + k ∧ wr.heap[N]? = some (.cells #[.pointer none, .pointer none, .pointer none, .pointer none] 129) ∧ wr.heap[N + 1]? = some (.cells (pcs (N + 2) k) 129) ∧ (∀ j, j < k → TabAt wr (N + 2 + j) [] (.slice none 0 0)) ∧ Below N w wr) (fun i _ => 4 - (intOf i).toNat)
  case atStart => exact ⟨0, by omega, rfl, nz, n0, n1, fun j hj => by omega, HB.out⟩
  case round =>
    obtain ⟨k, hk, rfl, hz, h0, h1, hT, hb⟩ := hrel
    have HT : Hid (∀ j, j < k → TabAt wr (N + 2 + j) [] (.slice none 0 0)) := hT
    have HBr : Hid (Below N w wr) := hb
    have HZ : Hid (wr.heap.size = N + 2 + k) := hz
    have H0 : Hid (wr.heap[N]? = some (.cells #[.pointer none, .pointer none, .pointer none, .pointer none] 129)) := h0
    have H1 : Hid (wr.heap[N + 1]? = some (.cells (pcs (N + 2) k) 129)) := h1
    clear hT hb hz h0 h1 n0 n1 nz HB
    by_cases hlt : k < 4
    · have hNew := New_any wr
      rw [HZ.out] at hNew
      go_wp2_with (go_at_call 65; refine hNew.mono ?_; clear hNew; rintro e w1 ⟨rfl, hA, hb1, hz1⟩; have g1 := (hb1.block (N + 1) (by omega)).trans H1.out; have c2 := cellB g1 k _ (pcs_at (N + 2) k hlt); have f2 := frozenB g1 k; have HG : Hid (w1.heap[N + 1]? = some (.cells (pcs (N + 2) k) 129)) := g1; clear g1; have HZ1 : Hid (w1.heap.size = N + 2 + k + 1) := hz1; clear hz1)
      go_roundw
      case rel =>
        refine ⟨k + 1, by omega, by go_num, by rw [World.size_setCell, HZ1.out]; omega, ?_, ?_, fun j hj => ?_, ?_⟩
        · exact (set_far (by omega) _ _).trans ((hb1.block N (by omega)).trans H0.out)
        · have := setB HG.out k (.pointer (some ⟨N + 2 + k, 0, none⟩))
          rw [pcs_set (N + 2) k hlt] at this
          exact this
        · by_cases e : j = k
          · subst e
            exact hA.keep (set_far (by omega) _ _) (fun q hq _ => by cases hq)
          · have hj' : j < k := by omega
            exact ((HT.out j hj').on (by rw [HZ.out]; exact hb1)).keep (set_far (by omega) _ _) (fun q hq _ => by cases hq)
        · exact (HBr.out.trans (hb1.mono (by omega))).setCell (p := ⟨N + 1, k, none⟩) (by show N ≤ N + 1; omega) _
      case measure => simp [intOf]; omega
    · obtain rfl : k = 4 := by omega
      have h0 := H0.out
      have h1 := H1.out
      rw [show pcs (N + 2) 4 = #[.pointer (some ⟨N + 2 + 0, 0, none⟩), .pointer (some ⟨N + 2 + 1, 0, none⟩), .pointer (some ⟨N + 2 + 2, 0, none⟩), .pointer (some ⟨N + 2 + 3, 0, none⟩)] from rfl] at h1
      have a0 := cellB h0 0 _ rfl
      have a1 := cellB h0 1 _ rfl
      have a2 := cellB h0 2 _ rfl
      have a3 := cellB h0 3 _ rfl
      have f0 := frozenB h0 0
      have f1 := frozenB h0 1
      have f2 := frozenB h0 2
      have f3 := frozenB h0 3
      have b0 := cellB h1 0 _ rfl
      have b1 := cellB h1 1 _ rfl
      have b2 := cellB h1 2 _ rfl
      have b3 := cellB h1 3 _ rfl
      have hS := set4h h0 (.pointer (some ⟨N + 2, 0, none⟩)) (.pointer (some ⟨N + 2 + 1, 0, none⟩)) (.pointer (some ⟨N + 2 + 2, 0, none⟩)) (.pointer (some ⟨N + 2 + 3, 0, none⟩))
      have r0 := cellB hS 0 _ rfl
      have r1 := cellB hS 1 _ rfl
      have r2 := cellB hS 2 _ rfl
      have r3 := cellB hS 3 _ rfl
      have HR : Hid (_) := And.intro r0 (And.intro r1 (And.intro r2 r3))
      clear h0 h1 hS r0 r1 r2 r3
      go_wp2
      obtain ⟨r0, r1, r2, r3⟩ := HR.out
      refine bodyPost_ret (v := tabV (N + 2)) (by simp [results, Tryd.f58, go_sem, tabV, r0, r1, r2, r3]) rfl ⟨N + 2, rfl, ?_, ?_⟩
      · rw [HN.out]
        refine ⟨fun i hi => ?_, by omega, fun i hi q hq => by cases hq⟩
        refine (HT.out i hi).keep ?_ (fun q hq _ => by cases hq)
        rw [set_far (by omega), set_far (by omega), set_far (by omega), set_far (by omega)]
      · rw [HN.out]
        exact (((HBr.out.setCell (p := ⟨N, 0, none⟩) (Nat.le_refl _) _).setCell (p := ⟨N, 1, none⟩) (Nat.le_refl _) _).setCell (p := ⟨N, 2, none⟩) (Nat.le_refl _) _).setCell (p := ⟨N, 3, none⟩) (Nat.le_refl _) _
end
section
open Go.RowKit
attribute [local go_sem ↓] Go.wp_at_zero Go.wp_at_succ

/-- The pointer of a place. -/
theorem tab_cell {w : World} {B b : Nat} (h : w.heap[B]? = some (.cells #[.pointer (some ⟨b, 0, none⟩), .pointer (some ⟨b + 1, 0, none⟩), .pointer (some ⟨b + 2, 0, none⟩), .pointer (some ⟨b + 3, 0, none⟩)] 129)) {p : Nat} (hp : p < 4) : w.cell? ⟨B, p, none⟩ = some (.pointer (some ⟨b + p, 0, none⟩)) := by
  refine cellB h p _ ?_
  rcases p with _ | _ | _ | _ | p
  · rfl
  · rfl
  · rfl
  · rfl
  · omega
set_option maxRecDepth 20000 in
set_option maxHeartbeats 2000000 in
theorem do_any {base : Nat} {w : World} {b : Nat} {S : Ms} {V : Nat → Value} (h : M4 base w b S V) (o : Opr) (hk : o.k.length ≤ 140737488351232) (he : EnvK w) :
    Calls Tryd.prog 59 #[tabV b, o.V] w fun e W' => e = .returned (ansV (tell S o)) ∧ ∃ V', M4 base W' b (next S o) V' ∧ Mv4 b w W' ∧ ∀ i, i < 4 → ∀ q, (V' i).ownBlock = some q → (V i).ownBlock = some q ∨ w.heap.size ≤ q := by
  obtain ⟨kind, k, v, od⟩ := o
  have hp4 := plcK_lt k
  show Calls Tryd.prog 59 #[.agg #[.pointer (some ⟨b, 0, none⟩), .pointer (some ⟨b + 1, 0, none⟩), .pointer (some ⟨b + 2, 0, none⟩), .pointer (some ⟨b + 3, 0, none⟩)], .agg #[.int .i64 kind, .string (bs k), .string (bs v), .string (bs od)]] w fun e W' => e = .returned (.agg #[.int .i64 (doR (S (plcK k)) kind k v od).2.1, .string (bs (doR (S (plcK k)) kind k v od).1)]) ∧ ∃ V', M4 base W' b (putM S (plcK k) (doR (S (plcK k)) kind k v od).2.2) V' ∧ Mv4 b w W' ∧ ∀ i, i < 4 → ∀ q, (V' i).ownBlock = some q → (V i).ownBlock = some q ∨ w.heap.size ≤ q
  replace hk : k.length ≤ 140737488351232 := hk
  obtain ⟨p, hp⟩ : ∃ p, plcK k = p := ⟨_, rfl⟩
  have hP0 := fun W (hW : EnvK W) => Place_any k W hk hW
  rw [hp] at hp4 hP0 ⊢
  obtain ⟨W3, hW3⟩ : ∃ W3, (((w.alloc (.cells #[.pointer (some ⟨b, 0, none⟩), .pointer (some ⟨b + 1, 0, none⟩), .pointer (some ⟨b + 2, 0, none⟩), .pointer (some ⟨b + 3, 0, none⟩)] 129)).alloc (.cells #[.int .i64 kind, .string (bs k), .string (bs v), .string (bs od)] 47)).alloc (.cells #[.int .i64 0, .string ⟨#[]⟩] 49)) = W3 := ⟨_, rfl⟩
  obtain ⟨N, hN⟩ : ∃ N, w.heap.size = N := ⟨_, rfl⟩
  have hb1 : Below N w W3 := by rw [← hW3, ← hN]; exact (((Below.refl _ w).alloc (Nat.le_refl _) _).alloc (by simp) _).alloc (by simp; omega) _
  have hz : W3.heap.size = N + 3 := by rw [← hW3, ← hN]; simp
  have z0 : W3.heap[N]? = some (.cells #[.pointer (some ⟨b, 0, none⟩), .pointer (some ⟨b + 1, 0, none⟩), .pointer (some ⟨b + 2, 0, none⟩), .pointer (some ⟨b + 3, 0, none⟩)] 129) := by
    rw [← hW3, ← hN]
    exact (((Below.refl (w.heap.size + 1) _).alloc (by simp) _).alloc (by simp) _).block w.heap.size (by omega) |>.trans (heap_alloc_new _ _)
  have z1 : W3.heap[N + 1]? = some (.cells #[.int .i64 kind, .string (bs k), .string (bs v), .string (bs od)] 47) := by
    rw [← hW3, ← hN]
    refine (((Below.refl (w.heap.size + 2) _).alloc (by simp) _).block (w.heap.size + 1) (by omega)).trans ?_
    have := heap_alloc_new (w.alloc (.cells #[.pointer (some ⟨b, 0, none⟩), .pointer (some ⟨b + 1, 0, none⟩), .pointer (some ⟨b + 2, 0, none⟩), .pointer (some ⟨b + 3, 0, none⟩)] 129)) (.cells #[.int .i64 kind, .string (bs k), .string (bs v), .string (bs od)] 47)
    simpa using this
  have z2 : W3.heap[N + 2]? = some (.cells #[.int .i64 0, .string ⟨#[]⟩] 49) := by
    rw [← hW3, ← hN]
    have := heap_alloc_new ((w.alloc (.cells #[.pointer (some ⟨b, 0, none⟩), .pointer (some ⟨b + 1, 0, none⟩), .pointer (some ⟨b + 2, 0, none⟩), .pointer (some ⟨b + 3, 0, none⟩)] 129)).alloc (.cells #[.int .i64 kind, .string (bs k), .string (bs v), .string (bs od)] 47)) (.cells #[.int .i64 0, .string ⟨#[]⟩] 49)
    simpa using this
  have hbN : base ≤ N := by have := (h.tab 0 (by omega)).lt; have := h.up; omega
  have hM3 : M4 base W3 b S V := h.on (by rw [hN]; exact hb1)
  have hE3 : EnvK W3 := he.next (by rw [hN]; exact hb1)
  obtain ⟨R, hR⟩ : ∃ R, doR (S p) kind k v od = R := ⟨_, rfl⟩
  have hC : ∀ W : World, W.heap[N]? = W3.heap[N]? → W.heap[N + 1]? = W3.heap[N + 1]? → W.cell? ⟨N, p, none⟩ = some (.pointer (some ⟨b + p, 0, none⟩)) ∧ W.cell? ⟨N + 1, 0, none⟩ = some (.int .i64 kind) ∧ W.cell? ⟨N + 1, 1, none⟩ = some (.string (bs k)) ∧ W.cell? ⟨N + 1, 2, none⟩ = some (.string (bs v)) ∧ W.cell? ⟨N + 1, 3, none⟩ = some (.string (bs od)) := fun W g0 g1 => ⟨tab_cell (g0.trans z0) hp4, cellB (g1.trans z1) 0 _ rfl, cellB (g1.trans z1) 1 _ rfl, cellB (g1.trans z1) 2 _ rfl, cellB (g1.trans z1) 3 _ rfl⟩
  have HP : Hid (∀ W, Below (N + 3) W3 W → Calls Tryd.prog 36 #[.string (bs k)] W fun e W' => e = .returned (.int .i64 p) ∧ Below (N + 3) W3 W' ∧ W'.cell? ⟨N, p, none⟩ = some (.pointer (some ⟨b + p, 0, none⟩)) ∧ W'.cell? ⟨N + 1, 0, none⟩ = some (.int .i64 kind) ∧ W'.cell? ⟨N + 1, 1, none⟩ = some (.string (bs k)) ∧ W'.cell? ⟨N + 1, 2, none⟩ = some (.string (bs v)) ∧ W'.cell? ⟨N + 1, 3, none⟩ = some (.string (bs od))) := fun W hW => (hP0 W (hE3.next (by rw [hz]; exact hW))).mono fun e W' hh => by
    have hb' := hW.trans (hh.2.mono (by have := hW.size; omega))
    exact ⟨hh.1, hb', hC W' (hb'.block N (by omega)) (hb'.block (N + 1) (by omega))⟩
  have HD : Hid (∀ W, Below (N + 3) W3 W → Calls Tryd.prog 66 #[.pointer (some ⟨b + p, 0, none⟩), .agg #[.int .i64 kind, .string (bs k), .string (bs v), .string (bs od)]] W fun e W' => e = .returned (.tuple #[.string (bs R.1), .int .i64 R.2.1]) ∧ (W'.cell? ⟨N, p, none⟩ = some (.pointer (some ⟨b + p, 0, none⟩)) ∧ W'.cell? ⟨N + 1, 0, none⟩ = some (.int .i64 kind) ∧ W'.cell? ⟨N + 1, 1, none⟩ = some (.string (bs k)) ∧ W'.cell? ⟨N + 1, 2, none⟩ = some (.string (bs v)) ∧ W'.cell? ⟨N + 1, 3, none⟩ = some (.string (bs od))) ∧ W'.heap[N + 2]? = some (.cells #[.int .i64 0, .string ⟨#[]⟩] 49) ∧ ∃ V', M4 base W' b (putM S p R.2.2) V' ∧ Mv4 b w W' ∧ ∀ i, i < 4 → ∀ q, (V' i).ownBlock = some q → q ≠ N + 2 ∧ ((V i).ownBlock = some q ∨ w.heap.size ≤ q)) := fun W hW => by
    have hMW := hM3.on (by rw [hz]; exact hW)
    have hd := Do_any (hMW.tab p hp4) kind k v od
    rw [hR] at hd
    have hb' := (h.tab p hp4).lt
    have hbl : ∀ W', DoPost W (b + p) (V p) R.2.2 W' → ∀ k, N ≤ k → k < N + 3 → W'.heap[k]? = W3.heap[k]? := fun W' hh k h1 h2 => by
      obtain ⟨v', -, -, hm⟩ := hh
      exact (hm.block k (by have := hW.size; omega) (by omega)).trans (hW.block k h2)
    refine hd.mono fun e W' hh => ⟨hh.1, hC W' (hbl W' hh.2 N (by omega) (by omega)) (hbl W' hh.2 (N + 1) (by omega) (by omega)), (hbl W' hh.2 (N + 2) (by omega) (by omega)).trans z2, ?_⟩
    obtain ⟨V', a1, a2, a3⟩ := hMW.did hp4 hh.2
    refine ⟨V', a1, a2.after (by rw [hN]; exact hb1.trans (hW.mono (by omega))), fun i hi q hq => ?_⟩
    rcases a3 i hi q hq with e | e
    · have := (h.own i hi q e).2.1
      exact ⟨by omega, .inl e⟩
    · have := hW.size
      exact ⟨by omega, .inr (by omega)⟩
  have HH : Hid (∀ i, i < 4 → N + 2 ≠ b + i) := fun i hi => by have := (h.tab i hi).lt; omega
  have HBN : Hid (base ≤ N) := hbN
  have HW : Hid (((w.alloc (.cells #[.pointer (some ⟨b, 0, none⟩), .pointer (some ⟨b + 1, 0, none⟩), .pointer (some ⟨b + 2, 0, none⟩), .pointer (some ⟨b + 3, 0, none⟩)] 129)).alloc (.cells #[.int .i64 kind, .string (bs k), .string (bs v), .string (bs od)] 47)).alloc (.cells #[.int .i64 0, .string ⟨#[]⟩] 49) = W3) := hW3
  have HN : Hid (w.heap.size = N) := hN
  rw [hR]
  obtain ⟨R1, R2, R3⟩ := R
  dsimp only at HD ⊢
  obtain ⟨c0, c1, c2, c3, c4⟩ := hC W3 rfl rfl
  have i0 : (0 : Int) ≤ (p : Int) := by omega
  have i1 : (p : Int) < 4 := by omega
  clear hC z1 hP0 hR hN hW3 hbN hM3 hE3 z0 z2 hz hb1 h he hk
  go_enter Tryd.func59, Tryd.ntmps59
  go_upto_region 1 with fail
  rw [HN.out, HW.out]
  go_region_held3 (fun w' => w'.cell? ⟨N, p, none⟩ = some (.pointer (some ⟨b + p, 0, none⟩)) ∧ w'.cell? ⟨N + 1, 0, none⟩ = some (.int .i64 kind) ∧ w'.cell? ⟨N + 1, 1, none⟩ = some (.string (bs k)) ∧ w'.cell? ⟨N + 1, 2, none⟩ = some (.string (bs v)) ∧ w'.cell? ⟨N + 1, 3, none⟩ = some (.string (bs od))) (go_keep)
    (first
      | (go_at_call 36; refine (HP.out _ (by first | exact Below.refl _ _ | exact below_drew (Below.refl _ _) | exact below_drewN (Below.refl _ _) _)).mono ?_; rintro e w1 ⟨rfl, hb1, d0, d1, d2, d3, d4⟩)
      | (go_at_call 66; refine (HD.out _ (by first | exact hb1 | exact below_drew hb1 | exact below_drewN hb1 _)).mono ?_; rintro e w2 ⟨rfl, ⟨e0, e1, e2, e3, e4⟩, hq, hV⟩))
  all_goals
    have hq' : w2.heap[N + 1 + 1]? = some (.cells #[.int .i64 0, .string ⟨#[]⟩] 49) := hq
    have hS := set2h hq' (.int .i64 R2) (.string (bs R1))
    have q0 := cellB hq' 0 _ rfl
    have q1 := cellB hq' 1 _ rfl
    have y0 := frozenB hq' 0
    have y1 := frozenB hq' 1
    have r0 := cellB hS 0 _ rfl
    have r1 := cellB hS 1 _ rfl
    have HR : Hid (_) := And.intro r0 r1
    obtain ⟨V', a1, a2, a3⟩ := hV
    have HV : Hid (_) := And.intro a1 (And.intro a2 a3)
    clear hS r0 r1 hq hq' a1 a2 a3 e0 e1 e2 e3 e4 d0 d1 d2 d3 d4 c0 c1 c2 c3 c4 HP HD hb1 HW
    go_wp2
    obtain ⟨r0, r1⟩ := HR.out
    obtain ⟨a1, a2, a3⟩ := HV.out
    refine bodyPost_ret (v := .agg #[.int .i64 R2, .string (bs R1)]) (by simp [results, Tryd.f59, go_sem, r0, r1]) rfl ⟨rfl, V', a1.keep (by simp) (fun i hi => ?_) (fun i hi q hq => ?_), ?_, fun i hi q hq => (a3 i hi q hq).2⟩
    · have := HH.out i hi
      rw [set_far (by omega), set_far (by omega)]
    · have := (a3 i hi q hq).1
      rw [set_far (by omega), set_far (by omega)]
    · have := HN.out
      exact (a2.set (x := N + 1 + 1) (by omega) _ _).set (x := N + 1 + 1) (by omega) _ _
end
section
open Go.RowKit
attribute [local go_sem ↓] Go.wp_at_zero Go.wp_at_succ

theorem RfAt.keepC {w w' : World} {B o : Nat} {L : List Rw} {u : Value} (h : RfAt w B o L u) (hc : w'.cell? ⟨B, o, none⟩ = w.cell? ⟨B, o, none⟩) (hf : w'.frozen? ⟨B, o, none⟩ = w.frozen? ⟨B, o, none⟩) (h2 : ∀ k, u.ownBlock = some k → k < w.heap.size → w'.heap[k]? = w.heap[k]?) : RfAt w' B o L u := by
  refine ⟨hc.trans h.cell, hf.trans h.fz, ?_, h.own, h.len, h.val⟩
  obtain ⟨hl, hr⟩ := h.rows
  rcases hr with hr | ⟨g, cap, cur, rfl, hb, hh, hrest⟩
  · exact ⟨hl, .inl hr⟩
  · exact ⟨hl, .inr ⟨g, cap, cur, rfl, hb, (h2 g rfl (Array.getElem?_eq_some_iff.1 hh).1).trans hh, hrest⟩⟩
/-- The document's map: four tables in one block. -/
structure RM (base : Nat) (w : World) (B : Nat) (L : Ms) (U : Nat → Value) : Prop where
  tab : ∀ i, i < 4 → RfAt w B i (L i) (U i)
  up : base ≤ B
  own : ∀ i, i < 4 → ∀ q, (U i).ownBlock = some q → base ≤ q ∧ q < w.heap.size ∧ q ≠ B ∧ ∀ j, j < 4 → j ≠ i → (U j).ownBlock ≠ some q
theorem RM.lt {base : Nat} {w : World} {B : Nat} {L : Ms} {U : Nat → Value} (h : RM base w B L U) : B < w.heap.size := (h.tab 0 (by omega)).lt
theorem RM.keep {base : Nat} {w w' : World} {B : Nat} {L : Ms} {U : Nat → Value} (h : RM base w B L U) (hs : w.heap.size ≤ w'.heap.size) (h1 : w'.heap[B]? = w.heap[B]?) (h2 : ∀ i, i < 4 → ∀ q, (U i).ownBlock = some q → w'.heap[q]? = w.heap[q]?) : RM base w' B L U :=
  ⟨fun i hi => (h.tab i hi).keep h1 fun q hq _ => h2 i hi q hq, h.up, fun i hi q hq => by obtain ⟨a1, a2, a3, a4⟩ := h.own i hi q hq; exact ⟨a1, Nat.lt_of_lt_of_le a2 hs, a3, a4⟩⟩
theorem RM.on {base : Nat} {w w' : World} {B : Nat} {L : Ms} {U : Nat → Value} (h : RM base w B L U) (hb : Below w.heap.size w w') : RM base w' B L U :=
  h.keep hb.size (hb.block B h.lt) fun i hi q hq => hb.block q (h.own i hi q hq).2.1
/-- What Tell leaves: all blocks but the map's and its rows'. -/
structure MvR (B : Nat) (U : Nat → Value) (w w' : World) : Prop where
  os : w'.os = w.os
  tape : w'.tape = w.tape
  output : w'.output = w.output
  size : w.heap.size ≤ w'.heap.size
  block : ∀ k, k < w.heap.size → k ≠ B → (∀ i, i < 4 → (U i).ownBlock ≠ some k) → w'.heap[k]? = w.heap[k]?
theorem MvR.after {B : Nat} {U : Nat → Value} {w w1 w2 : World} (h : Below w.heap.size w w1) (k : MvR B U w1 w2) : MvR B U w w2 :=
  ⟨k.os.trans h.os, k.tape.trans h.tape, k.output.trans h.output, Nat.le_trans h.size k.size, fun i hi h1 h2 => (k.block i (Nat.lt_of_lt_of_le hi h.size) h1 h2).trans (h.block i hi)⟩
theorem MvR.set {B : Nat} {U : Nat → Value} {w w' : World} (h : MvR B U w w') {x : Nat} (hx : w.heap.size ≤ x) (j : Nat) (v : Value) : MvR B U w (w'.setCell ⟨x, j, none⟩ v) :=
  ⟨h.os, h.tape, h.output, by rw [World.size_setCell]; exact h.size, fun k hk h1 h2 => (set_far (by omega) _ _).trans (h.block k hk h1 h2)⟩
theorem RM.below {base : Nat} {w w' : World} {B : Nat} {L : Ms} {U : Nat → Value} (h : RM base w B L U) (hm : MvR B U w w') : Below base w w' :=
  ⟨hm.os, hm.tape, hm.output, hm.size, fun k hk => hm.block k (by have := h.up; have := h.lt; omega) (by have := h.up; omega) fun i hi e => by have := (h.own i hi k e).1; omega⟩
theorem RM.did {base : Nat} {w W : World} {B p : Nat} {L : Ms} {U : Nat → Value} {l' : List Rw} (h : RM base w B L U) (hp : p < 4) (hD : RefPost w B p (U p) l' W) : ∃ U', RM base W B (putM L p l') U' ∧ MvR B U w W ∧ ∀ i, i < 4 → ∀ q, (U' i).ownBlock = some q → (U i).ownBlock = some q ∨ w.heap.size ≤ q := by
  obtain ⟨u', ht, ho, hm⟩ := hD
  have hlt := h.lt
  have hbase : base ≤ w.heap.size := by have := h.up; omega
  have hto : ∀ q, u'.ownBlock = some q → q < W.heap.size := fun q hq => ht.rs.lt q hq
  refine ⟨fun j => if j = p then u' else U j, ⟨fun i hi => ?_, h.up, fun i hi q hq => ?_⟩, ⟨hm.os, hm.tape, hm.output, hm.size, fun k hk h1 h2 => hm.block k hk h1 (h2 p hp)⟩, fun i hi q hq => ?_⟩
  · by_cases e : i = p
    · subst e
      simp only [putM, if_true]
      exact ht
    · simp only [putM, if_neg e]
      exact (h.tab i hi).keepC (hm.cells i e) (hm.fz i) fun q hq hl => hm.block q hl (h.own i hi q hq).2.2.1 ((h.own i hi q hq).2.2.2 p hp (Ne.symm e))
  · by_cases e : i = p
    · subst e
      simp only [if_true] at hq
      rcases ho q hq with h1 | h1
      · obtain ⟨a1, a2, a3, a4⟩ := h.own i hi q h1
        refine ⟨a1, Nat.lt_of_lt_of_le a2 hm.size, a3, fun j hj hne => ?_⟩
        simp only [if_neg hne]
        exact a4 j hj hne
      · refine ⟨by omega, hto q hq, by omega, fun j hj hne hc => ?_⟩
        simp only [if_neg hne] at hc
        have := (h.own j hj q hc).2.1
        omega
    · simp only [if_neg e] at hq
      obtain ⟨a1, a2, a3, a4⟩ := h.own i hi q hq
      refine ⟨a1, Nat.lt_of_lt_of_le a2 hm.size, a3, fun j hj hne hc => ?_⟩
      by_cases e2 : j = p
      · subst e2
        simp only [if_true] at hc
        rcases ho q hc with h1 | h1
        · exact a4 j hj hne h1
        · omega
      · simp only [if_neg e2] at hc
        exact a4 j hj hne hc
  · by_cases e : i = p
    · subst e
      simp only [if_true] at hq
      exact ho q hq
    · simp only [if_neg e] at hq
      exact .inl hq
/-- What the document's map tells. -/
def rtell (L : Ms) (o : Opr) : List UInt8 × Int := ((rdoL (L (plcK o.k)) o.kind o.k o.v o.o).1, (rdoL (L (plcK o.k)) o.kind o.k o.v o.o).2.1)
def rnext (L : Ms) (o : Opr) : Ms := putM L (plcK o.k) (rdoL (L (plcK o.k)) o.kind o.k o.v o.o).2.2
set_option maxRecDepth 20000 in
set_option maxHeartbeats 2000000 in
theorem Tell_any {base : Nat} {w : World} {B : Nat} {L : Ms} {U : Nat → Value} (h : RM base w B L U) (o : Opr) (hk : o.k.length ≤ 140737488351232) :
    Calls Tryd.prog 34 #[.pointer (some ⟨B, 0, none⟩), o.V] w fun e W' => e = .returned (ansV (rtell L o)) ∧ ∃ U', RM base W' B (rnext L o) U' ∧ MvR B U w W' ∧ ∀ i, i < 4 → ∀ q, (U' i).ownBlock = some q → (U i).ownBlock = some q ∨ w.heap.size ≤ q := by
  obtain ⟨kind, k, v, od⟩ := o
  have hp4 := plcK_lt k
  show Calls Tryd.prog 34 #[.pointer (some ⟨B, 0, none⟩), .agg #[.int .i64 kind, .string (bs k), .string (bs v), .string (bs od)]] w fun e W' => e = .returned (.agg #[.int .i64 (rdoL (L (plcK k)) kind k v od).2.1, .string (bs (rdoL (L (plcK k)) kind k v od).1)]) ∧ ∃ U', RM base W' B (putM L (plcK k) (rdoL (L (plcK k)) kind k v od).2.2) U' ∧ MvR B U w W' ∧ ∀ i, i < 4 → ∀ q, (U' i).ownBlock = some q → (U i).ownBlock = some q ∨ w.heap.size ≤ q
  replace hk : k.length ≤ 140737488351232 := hk
  obtain ⟨p, hp⟩ : ∃ p, plcK k = p := ⟨_, rfl⟩
  have hP0 := fun W => rPlace_any k W hk
  rw [hp] at hp4 hP0 ⊢
  obtain ⟨W3, hW3⟩ : ∃ W3, (w.alloc (.cells #[.int .i64 kind, .string (bs k), .string (bs v), .string (bs od)] 41)).alloc (.cells #[.int .i64 0, .string ⟨#[]⟩] 43) = W3 := ⟨_, rfl⟩
  obtain ⟨N, hN⟩ : ∃ N, w.heap.size = N := ⟨_, rfl⟩
  have hb1 : Below N w W3 := by rw [← hW3, ← hN]; exact ((Below.refl _ w).alloc (Nat.le_refl _) _).alloc (by simp) _
  have hz : W3.heap.size = N + 2 := by rw [← hW3, ← hN]; simp
  have z1 : W3.heap[N]? = some (.cells #[.int .i64 kind, .string (bs k), .string (bs v), .string (bs od)] 41) := by
    rw [← hW3, ← hN]
    exact ((Below.refl (w.heap.size + 1) _).alloc (by simp) _).block w.heap.size (by omega) |>.trans (heap_alloc_new _ _)
  have z2 : W3.heap[N + 1]? = some (.cells #[.int .i64 0, .string ⟨#[]⟩] 43) := by
    rw [← hW3, ← hN]
    have := heap_alloc_new (w.alloc (.cells #[.int .i64 kind, .string (bs k), .string (bs v), .string (bs od)] 41)) (.cells #[.int .i64 0, .string ⟨#[]⟩] 43)
    simpa using this
  have hbN : base ≤ N := by have := h.lt; have := h.up; omega
  have hBN : B < N := by have := h.lt; omega
  have hM3 : RM base W3 B L U := h.on (by rw [hN]; exact hb1)
  obtain ⟨R, hR⟩ : ∃ R, rdoL (L p) kind k v od = R := ⟨_, rfl⟩
  have hC : ∀ W : World, W.heap[N]? = W3.heap[N]? → W.cell? ⟨N, 0, none⟩ = some (.int .i64 kind) ∧ W.cell? ⟨N, 1, none⟩ = some (.string (bs k)) ∧ W.cell? ⟨N, 2, none⟩ = some (.string (bs v)) ∧ W.cell? ⟨N, 3, none⟩ = some (.string (bs od)) := fun W g1 => ⟨cellB (g1.trans z1) 0 _ rfl, cellB (g1.trans z1) 1 _ rfl, cellB (g1.trans z1) 2 _ rfl, cellB (g1.trans z1) 3 _ rfl⟩
  have HP : Hid (∀ W, Below (N + 2) W3 W → Calls Tryd.prog 21 #[.string (bs k)] W fun e W' => e = .returned (.int .i64 p) ∧ Below (N + 2) W3 W' ∧ W'.cell? ⟨N, 0, none⟩ = some (.int .i64 kind) ∧ W'.cell? ⟨N, 1, none⟩ = some (.string (bs k)) ∧ W'.cell? ⟨N, 2, none⟩ = some (.string (bs v)) ∧ W'.cell? ⟨N, 3, none⟩ = some (.string (bs od))) := fun W hW => (hP0 W).mono fun e W' hh => by
    have hb' := hW.trans (hh.2.mono (by have := hW.size; omega))
    exact ⟨hh.1, hb', hC W' (hb'.block N (by omega))⟩
  have HD : Hid (∀ W, Below (N + 2) W3 W → Calls Tryd.prog 40 #[.pointer (some ⟨B, p, none⟩), .agg #[.int .i64 kind, .string (bs k), .string (bs v), .string (bs od)]] W fun e W' => e = .returned (.tuple #[.string (bs R.1), .int .i64 R.2.1]) ∧ (W'.cell? ⟨N, 0, none⟩ = some (.int .i64 kind) ∧ W'.cell? ⟨N, 1, none⟩ = some (.string (bs k)) ∧ W'.cell? ⟨N, 2, none⟩ = some (.string (bs v)) ∧ W'.cell? ⟨N, 3, none⟩ = some (.string (bs od))) ∧ W'.heap[N + 1]? = some (.cells #[.int .i64 0, .string ⟨#[]⟩] 43) ∧ ∃ U', RM base W' B (putM L p R.2.2) U' ∧ MvR B U w W' ∧ ∀ i, i < 4 → ∀ q, (U' i).ownBlock = some q → q ≠ N + 1 ∧ ((U i).ownBlock = some q ∨ w.heap.size ≤ q)) := fun W hW => by
    have hMW := hM3.on (by rw [hz]; exact hW)
    have hd := rDo_any (hMW.tab p hp4) kind k v od
    rw [hR] at hd
    have hbl : ∀ W', RefPost W B p (U p) R.2.2 W' → ∀ k, N ≤ k → k < N + 2 → W'.heap[k]? = W3.heap[k]? := fun W' hh k h1 h2 => by
      obtain ⟨v', -, -, hm⟩ := hh
      exact (hm.block k (by have := hW.size; omega) (by omega) (fun e => by have := (h.own p hp4 k e).2.1; omega)).trans (hW.block k h2)
    refine hd.mono fun e W' hh => ⟨hh.1, hC W' (hbl W' hh.2 N (by omega) (by omega)), (hbl W' hh.2 (N + 1) (by omega) (by omega)).trans z2, ?_⟩
    obtain ⟨V', a1, a2, a3⟩ := hMW.did hp4 hh.2
    refine ⟨V', a1, a2.after (by rw [hN]; exact hb1.trans (hW.mono (by omega))), fun i hi q hq => ?_⟩
    rcases a3 i hi q hq with e | e
    · have := (h.own i hi q e).2.1
      exact ⟨by omega, .inl e⟩
    · have := hW.size
      exact ⟨by omega, .inr (by omega)⟩
  have HBN : Hid (base ≤ N ∧ B < N) := ⟨hbN, hBN⟩
  have HW : Hid ((w.alloc (.cells #[.int .i64 kind, .string (bs k), .string (bs v), .string (bs od)] 41)).alloc (.cells #[.int .i64 0, .string ⟨#[]⟩] 43) = W3) := hW3
  have HN : Hid (w.heap.size = N) := hN
  rw [hR]
  obtain ⟨R1, R2, R3⟩ := R
  dsimp only at HD ⊢
  obtain ⟨c1, c2, c3, c4⟩ := hC W3 rfl
  have i0 : (0 : Int) ≤ (p : Int) := by omega
  have i1 : (p : Int) < 4 := by omega
  clear hC z1 hP0 hR hN hW3 hbN hM3 z2 hz hb1 h hk hBN
  go_enter Tryd.func34, Tryd.ntmps34
  go_upto_region 1 with fail
  rw [HN.out, HW.out]
  go_upto_region 2 with (go_at_call 21; refine (HP.out _ (by first | exact Below.refl _ _ | exact below_drew (Below.refl _ _) | exact below_drewN (Below.refl _ _) _)).mono ?_; rintro e w1 ⟨rfl, hb1, d1, d2, d3, d4⟩)
  go_region_held3 (fun w' => w'.cell? ⟨N, 0, none⟩ = some (.int .i64 kind) ∧ w'.cell? ⟨N, 1, none⟩ = some (.string (bs k)) ∧ w'.cell? ⟨N, 2, none⟩ = some (.string (bs v)) ∧ w'.cell? ⟨N, 3, none⟩ = some (.string (bs od))) (go_keep)
    (first | (go_at_call 40; refine (HD.out _ (by first | exact hb1 | exact below_drew hb1 | exact below_drewN hb1 _)).mono ?_; rintro e w2 ⟨rfl, ⟨e1, e2, e3, e4⟩, hq, hV⟩))
  all_goals
    have hS := set2h hq (.int .i64 R2) (.string (bs R1))
    have q0 := cellB hq 0 _ rfl
    have q1 := cellB hq 1 _ rfl
    have y0 := frozenB hq 0
    have y1 := frozenB hq 1
    have r0 := cellB hS 0 _ rfl
    have r1 := cellB hS 1 _ rfl
    have HR : Hid (_) := And.intro r0 r1
    obtain ⟨V', a1, a2, a3⟩ := hV
    have HV : Hid (_) := And.intro a1 (And.intro a2 a3)
    clear hS r0 r1 hq a1 a2 a3 e1 e2 e3 e4 d1 d2 d3 d4 c1 c2 c3 c4 HP HD hb1 HW
    go_wp2
    obtain ⟨r0, r1⟩ := HR.out
    obtain ⟨a1, a2, a3⟩ := HV.out
    have hBN := HBN.out
    refine bodyPost_ret (v := .agg #[.int .i64 R2, .string (bs R1)]) (by simp [results, Tryd.f34, go_sem, r0, r1]) rfl ⟨rfl, V', a1.keep (by simp) ?_ (fun i hi q hq => ?_), ?_, fun i hi q hq => (a3 i hi q hq).2⟩
    · rw [set_far (by omega), set_far (by omega)]
    · have := (a3 i hi q hq).1
      rw [set_far (by omega), set_far (by omega)]
    · have := HN.out
      exact (a2.set (x := N + 1) (by omega) _ _).set (x := N + 1) (by omega) _ _
end
section
open Go.RowKit
attribute [local go_sem ↓] Go.wp_at_zero Go.wp_at_succ

/-- A slice of a list, each of whose elements has the cells f, s of them. -/
def SlF {α : Type} (f : α → List Value) (s : Nat) (w : World) (v : Value) (l : List α) : Prop :=
  (l = [] ∧ ∃ a c, v = .slice a 0 c) ∨ ∃ b o cap, v = .slice (some ⟨b, o, none⟩) l.length cap ∧ b < w.heap.size ∧ ∀ i a, l[i]? = some a → ∀ k u, (f a)[k]? = some u → w.cell? ⟨b, o + i * s + k, none⟩ = some u
theorem SlF.on {α : Type} {f : α → List Value} {s : Nat} {w w' : World} {v : Value} {l : List α} (h : SlF f s w v l) {n : Nat} (hb : Below n w w') (hn : w.heap.size ≤ n) : SlF f s w' v l := by
  rcases h with h | ⟨b, o, cap, rfl, h1, h2⟩
  · exact .inl h
  · exact .inr ⟨b, o, cap, rfl, Nat.lt_of_lt_of_le h1 hb.size, fun i a ha k u hu => (hb.cell (p := ⟨b, o + i * s + k, none⟩) (by show b < n; omega)).trans (h2 i a ha k u hu)⟩
theorem SlF.keep {α : Type} {f : α → List Value} {s : Nat} {w w' : World} {v : Value} {l : List α} (h : SlF f s w v l) (hs : w.heap.size ≤ w'.heap.size) (hk : ∀ k, v.ownBlock = some k → k < w.heap.size → w'.heap[k]? = w.heap[k]?) : SlF f s w' v l := by
  rcases h with h | ⟨b, o, cap, rfl, h1, h2⟩
  · exact .inl h
  · exact .inr ⟨b, o, cap, rfl, Nat.lt_of_lt_of_le h1 hs, fun i a ha k u hu => (World.cell?_of_block (hk b rfl h1)).trans (h2 i a ha k u hu)⟩
theorem SlF.slice {α : Type} {f : α → List Value} {s : Nat} {w : World} {v : Value} {l : List α} (h : SlF f s w v l) : ∃ a c, v = .slice a l.length c := by
  rcases h with ⟨rfl, a, c, rfl⟩ | ⟨b, o, cap, rfl, _⟩
  · exact ⟨a, c, rfl⟩
  · exact ⟨_, _, rfl⟩
theorem SlF.at {α : Type} {f : α → List Value} {s : Nat} {w : World} {a : Option Addr} {c : Nat} {l : List α} (h : SlF f s w (.slice a l.length c) l) {i : Nat} {x : α} (hx : l[i]? = some x) :
    ∃ b o, a = some ⟨b, o, none⟩ ∧ b < w.heap.size ∧ ∀ k u, (f x)[k]? = some u → w.cell? ⟨b, o + i * s + k, none⟩ = some u := by
  rcases h with ⟨rfl, _⟩ | ⟨b, o, cap, e, h1, h2⟩
  · simp at hx
  · simp only [Value.slice.injEq, true_and] at e
    obtain ⟨rfl, rfl⟩ := e
    exact ⟨b, o, rfl, h1, h2 i x hx⟩
theorem flat_get {α : Type} (f : α → List Value) (s : Nat) (hf : ∀ a, (f a).length = s) : ∀ (l : List α) (i : Nat) (a : α), l[i]? = some a → ∀ k, k < s → (l.flatMap f)[i * s + k]? = (f a)[k]?
  | [], i, a, h, _, _ => by simp at h
  | x :: l, 0, a, h, k, hk => by
    simp at h; subst h
    rw [List.flatMap_cons, Nat.zero_mul, Nat.zero_add, List.getElem?_append_left (by rw [hf]; exact hk)]
  | x :: l, i + 1, a, h, k, hk => by
    simp at h
    rw [List.flatMap_cons, List.getElem?_append_right (by rw [hf, Nat.succ_mul]; omega), hf, show (i + 1) * s + k - s = i * s + k by rw [Nat.succ_mul]; omega]
    exact flat_get f s hf l i a h k hk
theorem flat_len {α : Type} (f : α → List Value) (s : Nat) (hf : ∀ a, (f a).length = s) : ∀ l : List α, (l.flatMap f).length = l.length * s
  | [] => by simp
  | x :: l => by rw [List.flatMap_cons, List.length_append, hf, flat_len f s hf l, List.length_cons, Nat.succ_mul, Nat.add_comm]
theorem SlF.of_owns {α : Type} {f : α → List Value} {s : Nat} {w : World} {v : Value} {l : List α} {base : Nat} {e : TypeId} (hf : ∀ a, (f a).length = s) (h : w.ownsRow base e s v l.length (l.flatMap f)) : SlF f s w v l := by
  obtain ⟨hl, h⟩ := h
  rcases h with ⟨rfl, h0⟩ | ⟨g, cap, cur, rfl, hb, hh, h1, h2, h3, h4⟩
  · exact .inl ⟨List.length_eq_zero_iff.1 h0, none, 0, rfl⟩
  · refine .inr ⟨g, 0, cap, rfl, (Array.getElem?_eq_some_iff.1 hh).1, fun i a ha k u hu => ?_⟩
    have hi : i < l.length := (List.getElem?_eq_some_iff.1 ha).1
    have hk : k < s := by have := (List.getElem?_eq_some_iff.1 hu).1; rw [hf] at this; exact this
    have e : (cur.toList.take (l.length * s))[i * s + k]? = some u := by rw [h4, flat_get f s hf l i a ha k hk]; exact hu
    have hlt : i * s + k < l.length * s := by
      have : (i + 1) * s ≤ l.length * s := Nat.mul_le_mul_right s hi
      rw [Nat.succ_mul] at this
      omega
    rw [List.getElem?_take_of_lt hlt] at e
    simp only [World.cell?, hh, Nat.zero_add]
    simpa using e
theorem take_snoc {α : Type} {l : List α} {n : Nat} {a : α} (h : l[n]? = some a) : l.take (n + 1) = l.take n ++ [a] := by
  rw [List.take_add_one, h]; rfl

def ocs (o : Opr) : List Value := [.int .i64 o.kind, .string (bs o.k), .string (bs o.v), .string (bs o.o)]
theorem SlF.at4 {w : World} {a : Option Addr} {c : Nat} {l : List Opr} (h : SlF ocs 4 w (.slice a l.length c) l) {i : Nat} {kind : Int} {k v od : List UInt8} (hx : l[i]? = some ⟨kind, k, v, od⟩) :
    ∃ b o, a = some ⟨b, o, none⟩ ∧ w.cell? ⟨b, o + i * 4, none⟩ = some (.int .i64 kind) ∧ w.cell? ⟨b, o + i * 4 + 1, none⟩ = some (.string (bs k)) ∧ w.cell? ⟨b, o + i * 4 + 2, none⟩ = some (.string (bs v)) ∧ w.cell? ⟨b, o + i * 4 + 3, none⟩ = some (.string (bs od)) := by
  obtain ⟨b, o, e, -, hc⟩ := h.at hx
  exact ⟨b, o, e, hc 0 _ rfl, hc 1 _ rfl, hc 2 _ rfl, hc 3 _ rfl⟩
abbrev An := List UInt8 × Int
def acs (a : An) : List Value := [.int .i64 a.2, .string (bs a.1)]
/-- What one map tells, operation by operation; and the map behind them. -/
def fin : Ms → List Opr → Ms
  | S, [] => S
  | S, o :: l => fin (next S o) l
def repl : Ms → List Opr → List An
  | _, [] => []
  | S, o :: l => tell S o :: repl (next S o) l
theorem fin_snoc : ∀ (S : Ms) (l : List Opr) (o : Opr), fin S (l ++ [o]) = next (fin S l) o
  | _, [], _ => rfl
  | S, x :: l, o => fin_snoc (next S x) l o
theorem repl_snoc : ∀ (S : Ms) (l : List Opr) (o : Opr), repl S (l ++ [o]) = repl S l ++ [tell (fin S l) o]
  | _, [], _ => rfl
  | S, x :: l, o => by show tell S x :: repl (next S x) (l ++ [o]) = tell S x :: (repl (next S x) l ++ [tell (fin (next S x) l) o]); rw [repl_snoc]
theorem repl_len : ∀ (S : Ms) (l : List Opr), (repl S l).length = l.length
  | _, [] => rfl
  | S, x :: l => by show (repl _ l).length + 1 = _; rw [repl_len]; rfl
def rfin : Ms → List Opr → Ms
  | S, [] => S
  | S, o :: l => rfin (rnext S o) l
def rrepl : Ms → List Opr → List An
  | _, [] => []
  | S, o :: l => rtell S o :: rrepl (rnext S o) l
theorem rfin_snoc : ∀ (S : Ms) (l : List Opr) (o : Opr), rfin S (l ++ [o]) = rnext (rfin S l) o
  | _, [], _ => rfl
  | S, x :: l, o => rfin_snoc (rnext S x) l o
theorem rrepl_snoc : ∀ (S : Ms) (l : List Opr) (o : Opr), rrepl S (l ++ [o]) = rrepl S l ++ [rtell (rfin S l) o]
  | _, [], _ => rfl
  | S, x :: l, o => by show rtell S x :: rrepl (rnext S x) (l ++ [o]) = rtell S x :: (rrepl (rnext S x) l ++ [rtell (rfin (rnext S x) l) o]); rw [rrepl_snoc]
/-- Both maps have the same rows. -/
def Alike (L S : Ms) : Prop := ∀ i, i < 4 → (L i).Perm (S i) ∧ Ok (S i)
theorem alike_nil : Alike (fun _ => []) (fun _ => []) := fun _ _ => ⟨List.Perm.refl _, Ok.nil⟩
theorem alike_step {L S : Ms} (h : Alike L S) (o : Opr) : rtell L o = tell S o ∧ Alike (rnext L o) (next S o) := by
  obtain ⟨h1, h2⟩ := h (plcK o.k) (plcK_lt _)
  obtain ⟨t, E, L', l', e1, e2, hp, hok⟩ := do_alike h1 h2 o.kind o.k o.v o.o
  refine ⟨by rw [rtell, tell, e1, e2], fun i hi => ?_⟩
  rw [rnext, next, e1, e2]
  by_cases e : i = plcK o.k
  · subst e
    simp only [putM, if_true]
    exact ⟨hp, hok⟩
  · simp only [putM, if_neg e]
    exact h i hi
theorem alike_repl : ∀ {L S : Ms} (_ : Alike L S) (l : List Opr), rrepl L l = repl S l
  | _, _, _, [] => rfl
  | _, _, h, o :: l => by
    obtain ⟨e, h'⟩ := alike_step h o
    show _ :: _ = _ :: _
    rw [e, alike_repl h' l]

theorem Tryd.info41 : (Tryd.prog.info? 41).map (fun i => (i.zero, i.size, i.bytes)) = some (some (.agg #[.int .i64 0, .string ⟨#[]⟩, .string ⟨#[]⟩, .string ⟨#[]⟩]), 4, 56) := by kernel_rfl
theorem Tryd.info49 : (Tryd.prog.info? 49).map (fun i => (i.zero, i.size, i.bytes)) = some (some (.agg #[.int .i64 0, .string ⟨#[]⟩]), 2, 24) := by kernel_rfl
theorem Tryd.info43 : (Tryd.prog.info? 43).map (fun i => (i.zero, i.size, i.bytes)) = some (some (.agg #[.int .i64 0, .string ⟨#[]⟩]), 2, 24) := by kernel_rfl
end
end Go.Proofs.YtihilkdokfdoeaaDoor
