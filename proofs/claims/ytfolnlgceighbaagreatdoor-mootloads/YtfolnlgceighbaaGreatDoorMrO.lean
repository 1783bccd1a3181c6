/- Moots, the document's side: of, walked. -/
import Derived.Test.YtfolnlgceighbaaGreatDoorMpQ
namespace Go.Proofs.YtfolnlgceighbaaGreatDoor
open Go.RowKit
attribute [local go_sem ↓] Go.wp_at_zero Go.wp_at_succ

/-- What is known of a client. -/
def ofL : List C3 → Int → C3
  | [], _ => (0, 0, 0)
  | x :: r, i => if x.1 = i then x else ofL r i
theorem Tryz.size103 : (Tryz.prog.info? 103).map (·.size) = some 3 := by kernel_rfl
theorem res103 {W : World} {R : Nat} {x : C3} (h : W.rangeAt R 0 (c3s x)) : (loadVar 103 ⟨R, 0, none⟩).run Tryz.prog W = .ok (.agg (c3s x).toArray) W :=
  run_loadVar_mid W R 0 103 (c3s x) _ h Tryz.underlying103 rfl Tryz.size103
theorem c3_ones (x : C3) : (c3s x).toArray.all (·.oneCell') = true := by simp [c3s, Value.oneCell']
set_option maxRecDepth 20000 in
set_option maxHeartbeats 2000000 in
theorem of_any (i0 : Int) (K : Nat) (u c : Value) (l : List C3) (w : World) (hK : w.heap[K]? = some (.cells #[u, c] 51)) (hC : Cs w c l) (hl : l.length ≤ 1000) :
    Calls Tryz.prog 51 #[.pointer (some ⟨K, 0, none⟩), .int .i64 i0] w fun e W' => e = .returned (.agg (c3s (ofL l i0)).toArray) ∧ Below w.heap.size w W' := by
  obtain ⟨va, vc, rfl⟩ := hC.slice
  obtain ⟨R, hR⟩ : ∃ R, w.heap.size = R := ⟨_, rfl⟩
  have hb0 : Below w.heap.size w (w.alloc (.cells #[.int .i64 0, .int .i64 0, .int .i64 0] 103)) := (Below.refl _ _).alloc (Nat.le_refl _) _
  have r0 := heap_alloc_new w (.cells #[.int .i64 0, .int .i64 0, .int .i64 0] 103)
  obtain ⟨W0, hW0⟩ : ∃ W, w.alloc (.cells #[.int .i64 0, .int .i64 0, .int .i64 0] 103) = W := ⟨_, rfl⟩
  have HV : Hid (w.alloc (.cells #[.int .i64 0, .int .i64 0, .int .i64 0] 103) = W0) := hW0
  have HR : Hid (w.heap.size = R) := hR
  rw [hW0] at hb0 r0
  have hK0 := (hb0.block K (Array.getElem?_eq_some_iff.1 hK).1).trans hK
  rw [hR] at hb0 r0 ⊢
  have x1 := cellB hK0 1 (.slice va l.length vc) rfl
  have HC : Hid (Cs W0 (.slice va l.length vc) l ∧ W0.heap.size = R + 1) := ⟨by rw [← hR] at hb0; exact hC.next hb0, by rw [← hW0, ← hR]; simp⟩
  have HS : Hid (W0.heap[R]? = some (.cells #[.int .i64 0, .int .i64 0, .int .i64 0] 103) ∧ Below R w W0) := ⟨r0, hb0⟩
  clear hC hW0 hK hK0 hb0 r0 hR
  go_enter Tryz.func51, Tryz.ntmps51
  go_upto_region 1 with fail
  rw [HV.out, HR.out]
  clear HV HR
  go_wp2_with fail
  clear x1
  go_loopg [12] l.length (fun gk i wr => ∃ (k : Nat), k + gk = l.length ∧ i = .int .i64 k ∧ ofL l i0 = ofL (l.drop k) i0 ∧ wr.heap[R]? = some (.cells #[.int .i64 0, .int .i64 0, .int .i64 0] 103) ∧ Below R w wr ∧ Below W0.heap.size W0 wr)
  case atStart => exact ⟨0, by omega, rfl, rfl, HS.out.1, HS.out.2, Below.refl _ _⟩
  case round =>
    obtain ⟨k, hk, rfl, hof, hr, hB, hB0⟩ := hrel
    by_cases hlt : k < l.length
    · obtain ⟨x, hx⟩ : ∃ x, l[k]? = some x := ⟨_, List.getElem?_eq_getElem hlt⟩
      obtain ⟨k1, g1, s1⟩ := x
      obtain ⟨cb, co, hva, y0, y1, y2⟩ := (HC.out.1.next hB0).at hx
      subst hva
      have hdr : l.drop k = (k1, g1, s1) :: l.drop (k + 1) := by
        rw [List.drop_eq_getElem_cons hlt]
        congr 1
        rw [List.getElem?_eq_getElem hlt] at hx
        exact Option.some.inj hx
      have HOF : Hid (ofL l i0 = if k1 = i0 then (k1, g1, s1) else ofL (l.drop (k + 1)) i0) := by show _ = _; rw [hof, hdr]; rfl
      have HB : Hid (wr.heap[R]? = some (.cells #[.int .i64 0, .int .i64 0, .int .i64 0] 103) ∧ Below R w wr ∧ Below W0.heap.size W0 wr) := ⟨hr, hB, hB0⟩
      have j0 : (0 : Int) ≤ (k : Int) := by omega
      have j1 : (k : Int) < (l.length : Int) := by omega
      clear hx hdr hof hr hB hB0
      go_upto_region 4 with fail
      obtain ⟨D, hD⟩ : ∃ D, wr.heap.size = D := ⟨_, rfl⟩
      have rD := heap_alloc_new wr (.cells #[.int .i64 k1, .int .i64 g1, .int .i64 s1] 103)
      have hbA := (Below.refl wr.heap.size wr).alloc (Nat.le_refl _) (.cells #[.int .i64 k1, .int .i64 g1, .int .i64 s1] 103)
      obtain ⟨WA, hWA⟩ : ∃ W, wr.alloc (.cells #[.int .i64 k1, .int .i64 g1, .int .i64 s1] 103) = W := ⟨_, rfl⟩
      rw [hWA] at rD hbA ⊢
      have HA : Hid (WA.heap[R]? = some (.cells #[.int .i64 0, .int .i64 0, .int .i64 0] 103) ∧ Below R w WA ∧ Below W0.heap.size W0 WA) := by
        obtain ⟨a, b, c⟩ := HB.out
        have hRl : R < wr.heap.size := (Array.getElem?_eq_some_iff.1 a).1
        exact ⟨(hbA.block R hRl).trans a, b.trans (hbA.mono (Nat.le_of_lt hRl)), c.trans (hbA.mono c.size)⟩
      rw [hD] at rD ⊢
      have KD : Hid (WA.rangeAt D 0 (c3s (k1, g1, s1))) := blk_range (L := c3s (k1, g1, s1)) rD
      have x0 := cellB rD 0 (.int .i64 k1) rfl
      clear hbA hWA hD rD y0 y1 y2 HB
      by_cases hq : k1 = i0
      · have hq2 : (k1 == i0) = true := by simpa using hq
        have HO2 : Hid (ofL l i0 = (k1, g1, s1)) := by show _ = _; rw [HOF.out, if_pos hq]
        clear HOF hq
        go_wp2_with (first
          | (refine wpList_load_mid rfl 103 _ rfl D 0 rfl (c3s (k1, g1, s1)) _ KD.out Tryz.underlying103 rfl Tryz.size103 ?_)
          | (refine wpList_store_mid rfl 103 _ _ rfl R 0 (c3s (k1, g1, s1)).toArray rfl rfl (blk_there HA.out.1 0 3 (Nat.le_refl _)) Tryz.size103 (c3_ones _) ?_))
        have k4 := blk_range (blk_set HA.out.1 (L := c3s (k1, g1, s1)) rfl)
        refine bodyPost_ret (v := .agg (c3s (k1, g1, s1)).toArray) (results_one rfl rfl (res103 k4)) rfl ⟨by rw [HO2.out], blk_below (Nat.le_refl _) _ _ _ HA.out.2.1⟩
      · have hq2 : (k1 == i0) = false := by simpa using hq
        have HO2 : Hid (ofL l i0 = ofL (l.drop (k + 1)) i0) := by show _ = _; rw [HOF.out, if_neg hq]
        clear HOF hq
        go_wp2_with fail
        go_roundg (l.length - (k + 1))
        case measure => omega
        case rel => exact ⟨k + 1, by omega, by go_num, HO2.out, HA.out⟩
    · have hkl : k = l.length := by omega
      subst hkl
      have HO2 : Hid (ofL l i0 = (0, 0, 0)) := by show _ = _; rw [hof, List.drop_length]; rfl
      have HA : Hid (_ ∧ _) := ⟨hr, hB⟩
      clear hof hr hB hB0
      go_wp2_with (first
        | (refine wpList_store_mid rfl 103 _ _ rfl R 0 (c3s (0, 0, 0)).toArray rfl rfl (blk_there HA.out.1 0 3 (Nat.le_refl _)) Tryz.size103 (c3_ones _) ?_))
      have k4 := blk_range (blk_set HA.out.1 (L := c3s (0, 0, 0)) rfl)
      refine bodyPost_ret (v := .agg (c3s (0, 0, 0)).toArray) (results_one rfl rfl (res103 k4)) rfl ⟨by rw [HO2.out], blk_below (Nat.le_refl _) _ _ _ HA.out.2⟩
end Go.Proofs.YtfolnlgceighbaaGreatDoor
