/- Equal certificates, walked; the program's slot beside the document's. -/
import Derived.Test.YtoehmpcfmpkbnaaSoX
namespace Go.Proofs.Ytoehmpcfmpkbnaa
open Go.RowKit
attribute [local go_sem ↓] Go.wp_at_zero Go.wp_at_succ

set_option maxRecDepth 20000 in
set_option maxHeartbeats 4000000 in
theorem same_any (T : List UInt8) (G : Int) (L : List Tg) (u v : Value) (w : World) {b1 b2 : Nat} (hL : L.length ≤ 1000) (hu : w.ownsRow b1 70 2 u L.length (tcs L)) (hv : w.ownsRow b2 84 2 v L.length (tcs L)) : Calls Try.prog 18 #[.agg #[.string (bs T), .int .i64 G, u], .agg #[.string (bs T), .int .i64 G, v]] w fun e W' => e = .returned (.bool true) ∧ Below w.heap.size w W' := by
  obtain ⟨ua, uc, rfl⟩ := owns_slice hu
  obtain ⟨va, vc, rfl⟩ := owns_slice hv
  obtain ⟨W0, hW0⟩ : ∃ W, (w.alloc (.cells #[.string (bs T), .int .i64 G, .slice ua L.length uc] 49)).alloc (.cells #[.string (bs T), .int .i64 G, .slice va L.length vc] 54) = W := ⟨_, rfl⟩
  have hb1 : Below w.heap.size w (w.alloc (.cells #[.string (bs T), .int .i64 G, .slice ua L.length uc] 49)) := (Below.refl _ w).alloc (Nat.le_refl _) _
  have hb0 : Below w.heap.size w W0 := by rw [← hW0]; exact hb1.alloc hb1.size _
  have rX : W0.heap[w.heap.size]? = some (.cells #[.string (bs T), .int .i64 G, .slice ua L.length uc] 49) := by
    rw [← hW0]; exact (Below.heap_alloc _ _ _ (by simp)).trans (heap_alloc_new w _)
  have rY : W0.heap[w.heap.size + 1]? = some (.cells #[.string (bs T), .int .i64 G, .slice va L.length vc] 54) := by
    have := heap_alloc_new (w.alloc (.cells #[.string (bs T), .int .i64 G, .slice ua L.length uc] 49)) (.cells #[.string (bs T), .int .i64 G, .slice va L.length vc] 54)
    rw [hW0] at this
    simpa using this
  have HX : Hid (_ ∧ _) := ⟨hold3 rX, hold3 rY⟩
  have x0 := cellB rX 0 _ rfl
  have x1 := cellB rX 1 _ rfl
  have x2 := cellB rX 2 _ rfl
  have y0 := cellB rY 0 _ rfl
  have y1 := cellB rY 1 _ rfl
  have y2 := cellB rY 2 _ rfl
  have hst := str_same T
  clear rX rY hb1
  go_enter Try.func18, Try.ntmps18
  go_upto_region 1 with fail
  clear hW0
  go_wp2_with fail
  clear x0 x1 x2 y0 y1 y2 hst
  go_loopg [30] L.length (fun gk i wr => ∃ k : Nat, k + gk = L.length ∧ i = .int .i64 k ∧ Below W0.heap.size W0 wr)
  case atStart => exact ⟨0, by omega, rfl, Below.refl _ _⟩
  case round =>
    obtain ⟨k, hk, rfl, hB⟩ := hrel
    obtain ⟨x0, x1, x2⟩ := HX.out.1 _ hB
    obtain ⟨y0, y1, y2⟩ := HX.out.2 _ hB
    have hBw := hb0.trans (hB.mono hb0.size)
    by_cases hlt : k < L.length
    · obtain ⟨⟨n5, g5⟩, ha⟩ : ∃ a, L[k]? = some a := ⟨_, List.getElem?_eq_getElem hlt⟩
      obtain ⟨gb, cap, hv1, hg1, hg2, z0, z1⟩ := trow_at (owns_next hu hBw) ha
      injection hv1 with e1 _ e2
      subst e1 e2
      obtain ⟨gd, cap2, hv2, hg3, hg4, t0, t1⟩ := trow_at (owns_next hv hBw) ha
      injection hv2 with e1 _ e2
      subst e1 e2
      simp only at z0 z1 t0 t1
      have m0 : (0 : Int) ≤ (k : Int) := by omega
      have m1 : (k : Int) < (L.length : Int) := by omega
      have hst := str_same g5
      have hst2 : ((bs g5).toList != (bs g5).toList) = false := by simp
      have hn2 : (n5 != n5) = false := by simp
      clear ha hg1 hg3
      go_upto_region 6 with fail
      go_quiet (fail)
      go_wp2
      go_roundg (L.length - (k + 1))
      case measure => omega
      case rel => exact ⟨k + 1, by omega, by go_num, below_drewN hB nq⟩
    · have hkl : k = L.length := by omega
      subst hkl
      go_wp2
      go_ret
      exact ⟨rfl, hBw⟩
/-- The program's slot and the document's, side by side, above all that was there. -/
structure Tw (W0 : World) (B R : Nat) (v : Value) (gr : Int) (f p : Nat) (V : Vs) (l : List Vo) (wr : World) : Prop where
  slot : SlotAt wr B gr f p V
  ref : RefAt W0.heap.size wr R v gr f p l
  bel : Below W0.heap.size W0 wr
  base : W0.heap.size ≤ B
  ne : B ≠ R
  nv : v.ownBlock ≠ some B
  tie : Tie f l V
theorem Tw.next {W0 wr wr' : World} {B R : Nat} {v : Value} {gr : Int} {f p : Nat} {V : Vs} {l : List Vo} (h : Tw W0 B R v gr f p V l wr) (hb : Below wr.heap.size wr wr') : Tw W0 B R v gr f p V l wr' :=
  ⟨h.slot.on hb, h.ref.on hb, h.bel.trans (hb.mono h.bel.size), h.base, h.ne, h.nv, h.tie⟩
/-- Behind both votes. -/
theorem Tw.voted {W0 w1 w2 w3 : World} {B R : Nat} {v v' : Value} {gr : Int} {f p : Nat} {V V' : Vs} {l l' : List Vo} (h : Tw W0 B R v gr f p V l w1) (hs : SlotAt w2 B gr f p V') (hm : Mv B w1 w2) (hr : RefAt W0.heap.size w3 R v' gr f p l') (hm' : Moved R v v' w2 w3) (ht : Tie f l' V') : Tw W0 B R v' gr f p V' l' w3 := by
  have hB2 := h.bel.trans (hm.below h.base h.bel.size)
  have hb3 : Below W0.heap.size w2 w3 := hm'.below h.ref.base (fun k hk => (h.ref.own.lt k hk).1) hB2.size
  refine ⟨hs.keep (hm'.block B hs.lt h.ne h.nv), hr, hB2.trans hb3, h.base, h.ne, fun e => ?_, ht⟩
  rcases hm'.own B e with e2 | e2
  · exact h.nv e2
  · have := hs.lt; omega
theorem Tw.mid {W0 w1 w2 : World} {B R : Nat} {v : Value} {gr : Int} {f p : Nat} {V : Vs} {l : List Vo} (h : Tw W0 B R v gr f p V l w1) (hm : Mv B w1 w2) : RefAt W0.heap.size w2 R v gr f p l :=
  h.ref.keep (hm.block R h.ref.lt (fun e => h.ne e.symm)) (fun k hk => hm.block k (h.ref.own.lt k hk).2 (fun e => h.nv (by rw [← e]; exact hk)))
end Go.Proofs.Ytoehmpcfmpkbnaa
