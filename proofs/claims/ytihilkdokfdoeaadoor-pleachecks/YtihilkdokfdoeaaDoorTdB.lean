/- The document's table in memory; at, walked. -/
import Derived.Test.YtihilkdokfdoeaaDoorTbH
import Derived.Test.YtihilkdokfdoeaaDoorTbQ
namespace Go.Proofs.YtihilkdokfdoeaaDoor
open Go.RowKit
attribute [local go_sem ↓] Go.wp_at_zero Go.wp_at_succ

/-- The document's table, as it stands somewhere. -/
structure RfAt (w : World) (B o : Nat) (L : List Rw) (u : Value) : Prop where
  cell : w.cell? ⟨B, o, none⟩ = some u
  fz : w.frozen? ⟨B, o, none⟩ = false
  rows : w.ownsRow 0 117 2 u L.length (rcs L)
  own : ∀ k, u.ownBlock = some k → k ≠ B
  len : L.length ≤ 16
  val : ∀ r ∈ L, r.2.length ≤ 64
theorem RfAt.lt {w : World} {B o : Nat} {L : List Rw} {u : Value} (h : RfAt w B o L u) : B < w.heap.size := World.block_lt_of_cell? w _ h.cell
theorem RfAt.keep {w w' : World} {B o : Nat} {L : List Rw} {u : Value} (h : RfAt w B o L u) (h1 : w'.heap[B]? = w.heap[B]?) (h2 : ∀ k, u.ownBlock = some k → k < w.heap.size → w'.heap[k]? = w.heap[k]?) : RfAt w' B o L u := by
  refine ⟨(World.cell?_of_block (w := w) (a := ⟨B, o, none⟩) h1).trans h.cell, (World.frozen?_of_block (w := w) (a := ⟨B, o, none⟩) h1).trans h.fz, ?_, h.own, h.len, h.val⟩
  obtain ⟨hl, hr⟩ := h.rows
  rcases hr with hr | ⟨g, cap, cur, rfl, hb, hh, hrest⟩
  · exact ⟨hl, .inl hr⟩
  · exact ⟨hl, .inr ⟨g, cap, cur, rfl, hb, (h2 g rfl (Array.getElem?_eq_some_iff.1 hh).1).trans hh, hrest⟩⟩
theorem RfAt.on {w w' : World} {B o : Nat} {L : List Rw} {u : Value} (h : RfAt w B o L u) (hb : Below w.heap.size w w') : RfAt w' B o L u := h.keep (hb.block B h.lt) fun k _ hk => hb.block k hk
theorem RfAt.rs {w : World} {B o : Nat} {L : List Rw} {u : Value} (h : RfAt w B o L u) : Rs w u L := Rs.of_owns h.rows

/-- Where a key's row stands. -/
def atI (L : List Rw) (k : List UInt8) : Int := match L.findIdx? (fun r => r.1 == k) with
  | some i => i
  | none => -1
theorem atI_some {L : List Rw} {k : List UInt8} {i : Nat} {r : Rw} (hr : L[i]? = some r) (he : r.1 = k) (hb : ∀ (j : Nat) (q : Rw), L[j]? = some q → j < i → q.1 ≠ k) : atI L k = i := by
  have : L.findIdx? (fun r => r.1 == k) = some i := by
    rw [List.findIdx?_eq_some_iff_getElem]
    obtain ⟨hi, e⟩ := List.getElem?_eq_some_iff.1 hr
    refine ⟨hi, by rw [e]; simpa using he, fun j hj => ?_⟩
    simpa using hb j _ (List.getElem?_eq_getElem (by omega)) hj
  rw [atI, this]
theorem atI_none {L : List Rw} {k : List UInt8} (hb : ∀ (j : Nat) (q : Rw), L[j]? = some q → q.1 ≠ k) : atI L k = -1 := by
  have : L.findIdx? (fun r => r.1 == k) = none := by
    rw [List.findIdx?_eq_none_iff]
    intro x hx
    obtain ⟨j, hj⟩ := List.mem_iff_getElem?.1 hx
    simpa using hb j x hj
  rw [atI, this]
set_option maxRecDepth 20000 in
set_option maxHeartbeats 1000000 in
theorem at_any {w : World} {B o : Nat} {L : List Rw} {u : Value} (h : RfAt w B o L u) (k : List UInt8) : Calls Tryd.prog 48 #[.pointer (some ⟨B, o, none⟩), .string (bs k)] w fun e W' => e = .returned (.int .i64 (atI L k)) ∧ Below w.heap.size w W' := by
  have hc := h.cell
  have hlt := h.lt
  have hR := h.rs
  obtain ⟨a, c, rfl, hcap⟩ := hR.slice
  have hlen := h.len
  obtain ⟨I, hI⟩ : ∃ I, atI L k = I := ⟨_, rfl⟩
  have HI : Hid (atI L k = I) := hI
  rw [hI]
  clear hI h
  go_enter Tryd.func48, Tryd.ntmps48
  go_wp2
  go_loopw [12] (fun i wr => ∃ n : Nat, i = .int .i64 n ∧ n ≤ L.length ∧ Hid (∀ (j : Nat) (q : Rw), L[j]? = some q → j < n → q.1 ≠ k) ∧ Below w.heap.size w wr) (fun i _ => L.length - (intOf i).toNat)
  case atStart => exact ⟨0, rfl, Nat.zero_le _, fun j q _ hj => by omega, Below.refl _ _⟩
  case round =>
    obtain ⟨n, rfl, hn, hno, hB⟩ := hrel
    by_cases hn1 : n = L.length
    · subst hn1
      have e : I = -1 := HI.out.symm.trans (atI_none fun j q hq => hno.out j q hq (List.getElem?_eq_some_iff.1 hq).1)
      subst e
      clear hno HI
      go_wp2
      go_ret
      exact ⟨rfl, hB⟩
    · have hn2 : n < L.length := by omega
      obtain ⟨r, hr⟩ : ∃ r, L[n]? = some r := ⟨_, List.getElem?_eq_getElem hn2⟩
      obtain ⟨g, rfl, hg, c1, c2⟩ := (hR.on hB).at hr
      have hB2 := hB.alloc hB.size (.cells #[.string (bs r.1), .string (bs r.2)] 117)
      have HB : Hid (_) := hB2
      by_cases e : r.1 = k
      · have e2 : I = (n : Int) := HI.out.symm.trans (atI_some hr e hno.out)
        have hs : ((bs r.1).toList == (bs k).toList) = true := by rw [e]; simp
        subst e2
        clear hr hno HI e hB2
        go_wp2
        go_ret
        exact ⟨rfl, HB.out⟩
      · have hs := str_other e
        have HN : Hid (∀ (j : Nat) (q : Rw), L[j]? = some q → j < n + 1 → q.1 ≠ k) := fun j q hq hj => by
          by_cases e2 : j = n
          · subst e2
            rw [hr] at hq
            cases hq
            exact e
          · exact hno.out j q hq (by omega)
        clear hr hno e hB2
        go_wp2
        go_roundw
        case rel => exact ⟨n + 1, by go_num, hn2, HN, HB.out⟩
        case measure => simp [intOf]; omega
end Go.Proofs.YtihilkdokfdoeaaDoor
