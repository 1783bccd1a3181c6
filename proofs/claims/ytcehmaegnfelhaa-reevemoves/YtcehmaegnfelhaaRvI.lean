/- reeve: two groups join, walked. -/
import Derived.Test.YtcehmaegnfelhaaRvC
import Derived.Test.YtcehmaegnfelhaaRvH
import Derived.Test.YtcehmaegnfelhaaChW
namespace Go.Proofs.Ytcehmaegnfelhaa
open Go.RowKit
attribute [local go_sem ↓] Go.wp_at_zero Go.wp_at_succ

def l2 : List Ru := [⟨0, 1, 1, 1, 0, 0⟩, ⟨0, 2, 1, 2, 0, 0⟩]
def L3 : List Cg := allL (rcN l2 2)
theorem l2_ok : (List.range 2).all (fun i => !rBad l2 i) = true := by decide +kernel
theorem L3_fo : foB L3 L3.length = true := by decide +kernel
theorem L3_len : L3.length = 3 := by decide +kernel
theorem L3_mv : mvS L3 (L3.length - 1) = [0, 2] := by decide +kernel
theorem L3_wy : cpt (owS L3 0) = [0, 1, 2] := by decide +kernel
theorem L3_gs : L3.all (fun x => decide (x.gs.length ≤ 1000)) = true := by decide +kernel
theorem L3_small : ∀ (i : Nat) x, L3[i]? = some x → x.gs.length ≤ 1000 := fun i x h => by
  have := List.all_eq_true.1 L3_gs x (List.mem_of_getElem? h)
  simpa using this
theorem ch2 {e : Ending} {W : World} (h : ChnPost l2 e W) : ∃ a c, e = .returned (.tuple #[.slice a 3 c, .int .i64 0]) ∧ Cl W (.slice a 3 c) L3 := by
  rcases h with ⟨-, u, rfl, hc, -⟩ | ⟨i, hi, hb, -⟩
  · have hc2 : Cl W u L3 := hc
    obtain ⟨a, c, rfl⟩ := hc2.slice
    rw [L3_len] at hc2 ⊢
    exact ⟨a, c, rfl, hc2⟩
  · have := List.all_eq_true.1 l2_ok i (List.mem_range.2 hi)
    rw [hb] at this; cases this
theorem mv2 {e : Ending} {W : World} (h : MvPost L3 e W) : ∃ a c, e = .returned (.tuple #[.slice a 2 c, .int .i64 0]) ∧ Il W (.slice a 2 c) [0, 2] := by
  rw [MvPost, if_pos L3_fo, L3_mv] at h
  obtain ⟨u, rfl, hi⟩ := h
  obtain ⟨a, c, rfl⟩ := hi.slice
  exact ⟨a, c, rfl, hi⟩
theorem wy2 {e : Ending} {W : World} (h : WyPost L3 0 e W) : ∃ a c, e = .returned (.tuple #[.slice a 3 c, .int .i64 0]) ∧ Il W (.slice a 3 c) [0, 1, 2] := by
  rw [WyPost, if_neg (by decide), if_pos L3_fo, show (0 : Int).toNat = 0 from rfl, L3_wy] at h
  obtain ⟨u, rfl, hi⟩ := h
  obtain ⟨a, c, rfl⟩ := hi.slice
  exact ⟨a, c, rfl, hi⟩
theorem Il_new (w : World) (ns : List Int) : Il (w.alloc (.cells (zcs ns).toArray 3)) (.slice (some ⟨w.heap.size, 0, none⟩) ns.length ns.length) ns :=
  .inr ⟨_, 0, _, rfl, by simp, fun i n hn => by rw [Nat.zero_add]; exact cellB (heap_alloc_new w _) i _ (by rw [List.getElem?_toArray]; exact zcs_at ns i n hn)⟩
theorem hid_l2 (w : World) : SlF rul 6 (w.alloc (.cells #[.int .i64 0, .int .i64 1, .int .i64 1, .int .i64 1, .int .i64 0, .int .i64 0, .int .i64 0, .int .i64 2, .int .i64 1, .int .i64 2, .int .i64 0, .int .i64 0] 45)) (.slice (some ⟨w.heap.size, 0, none⟩) 2 2) l2 := by
  refine .inr ⟨_, 0, 2, rfl, by simp, fun i a ha k u hu => ?_⟩
  have r := heap_alloc_new w (.cells #[.int .i64 0, .int .i64 1, .int .i64 1, .int .i64 1, .int .i64 0, .int .i64 0, .int .i64 0, .int .i64 2, .int .i64 1, .int .i64 2, .int .i64 0, .int .i64 0] 45)
  have hk : k < 6 := by have := (List.getElem?_eq_some_iff.1 hu).1; simpa [rul] using this
  refine cellB r _ _ ?_
  rcases i with _ | _ | i
  · have : a = ⟨0, 1, 1, 1, 0, 0⟩ := by simpa [l2] using ha.symm
    subst this
    rcases k with _ | _ | _ | _ | _ | _ | k
    all_goals first | (rw [← hu]; rfl) | omega
  · have : a = ⟨0, 2, 1, 2, 0, 0⟩ := by simpa [l2] using ha.symm
    subst this
    rcases k with _ | _ | _ | _ | _ | _ | k
    all_goals first | (rw [← hu]; rfl) | omega
  · simp [l2] at ha
set_option maxRecDepth 20000 in
set_option maxHeartbeats 1000000 in
theorem two_any (w : World) : Calls Try.prog 7 #[] w fun e W' => e = .returned (.bool true) ∧ Below w.heap.size w W' := by
  have h0 := hid_l2 w
  have hb0 := (Below.refl w.heap.size w).alloc (Nat.le_refl _) (.cells #[.int .i64 0, .int .i64 1, .int .i64 1, .int .i64 1, .int .i64 0, .int .i64 0, .int .i64 0, .int .i64 2, .int .i64 1, .int .i64 2, .int .i64 0, .int .i64 0] 45)
  obtain ⟨W0, hW0⟩ : ∃ W, w.alloc (.cells #[.int .i64 0, .int .i64 1, .int .i64 1, .int .i64 1, .int .i64 0, .int .i64 0, .int .i64 0, .int .i64 2, .int .i64 1, .int .i64 2, .int .i64 0, .int .i64 0] 45) = W := ⟨_, rfl⟩
  rw [hW0] at h0 hb0
  have hC := chain_any l2 _ W0 h0 (by decide)
  obtain ⟨N, hN⟩ : ∃ N, w.heap.size = N := ⟨_, rfl⟩
  rw [hN] at hC hb0 ⊢
  have HN : Hid (w.heap.size = N) := hN
  have HW : Hid (w.alloc (.cells #[.int .i64 0, .int .i64 1, .int .i64 1, .int .i64 1, .int .i64 0, .int .i64 0, .int .i64 0, .int .i64 2, .int .i64 1, .int .i64 2, .int .i64 0, .int .i64 0] 45) = W0) := hW0
  have HB0 : Hid (Below N w W0 ∧ N ≤ W0.heap.size) := ⟨hb0, by have := hb0.size; omega⟩
  clear h0 hb0 hW0 hN
  go_enter Try.func7, Try.ntmps7
  go_upto_region 2 with fail
  rw [HW.out, HN.out]
  go_upto_region 3 with (first
    | (go_at_call 16; refine hC.mono ?_; clear hC; rintro e w1 ⟨hp, hB1⟩; obtain ⟨ca, cc, rfl, hcl⟩ := ch2 hp; clear hp)
    | fail)
  have hM := moves_any L3 _ w1 hcl (by rw [L3_len]; decide) L3_small
  have HB1 : Hid (Below N w w1 ∧ N ≤ w1.heap.size) := ⟨HB0.out.1.trans (hB1.mono HB0.out.2), Nat.le_trans HB0.out.2 hB1.size⟩
  have HC1 : Hid (Cl w1 (.slice ca 3 cc) L3) := hcl
  clear hB1 hcl
  go_upto_region 4 with (first
    | (go_at_call 8; refine hM.mono ?_; clear hM; rintro e w2 ⟨hp, hB2⟩; obtain ⟨ma, mc, rfl, hil⟩ := mv2 hp; clear hp)
    | fail)
  have hY := way_any L3 _ 0 w2 (HC1.out.on hB2 (Nat.le_refl _)) (by rw [L3_len]; decide) L3_small
  have HB2 : Hid (Below N w w2 ∧ N ≤ w2.heap.size) := ⟨HB1.out.1.trans (hB2.mono HB1.out.2), Nat.le_trans HB1.out.2 hB2.size⟩
  have HI2 : Hid (Il w2 (.slice ma 2 mc) [0, 2]) := hil
  clear hB2 hil
  go_upto_region 5 with (first
    | (go_at_call 11; refine hY.mono ?_; clear hY; rintro e w3 ⟨hp, hB3⟩; obtain ⟨ya, yc, rfl, hiy⟩ := wy2 hp; clear hp)
    | fail)
  have HB3 : Hid (Below N w w3 ∧ N ≤ w3.heap.size) := ⟨HB2.out.1.trans (hB3.mono HB2.out.2), Nat.le_trans HB2.out.2 hB3.size⟩
  have hb4 := (Below.refl w3.heap.size w3).alloc (Nat.le_refl _) (.cells (zcs [0, 2]).toArray 3)
  have h4 := Ints_any [0, 2] (.slice ma 2 mc) (.slice (some ⟨w3.heap.size, 0, none⟩) 2 2) (w3.alloc (.cells (zcs [0, 2]).toArray 3)) ((HI2.out.next hB3).next hb4) (Il_new w3 [0, 2]) (by decide)
  have HI3 : Hid (Il w3 (.slice ya 3 yc) [0, 1, 2] ∧ Below w3.heap.size w3 (w3.alloc (.cells (zcs [0, 2]).toArray 3))) := ⟨hiy, hb4⟩
  clear hB3 hiy hb4
  go_wp2_with (first
    | (go_at_call 13; refine h4.mono ?_; clear h4; rintro e w4 ⟨rfl, hB4⟩; have hB5 := HI3.out.2.trans (hB4.mono HI3.out.2.size); have hb6 := (Below.refl w4.heap.size w4).alloc (Nat.le_refl _) (.cells (zcs [0, 1, 2]).toArray 3); have h5 := Ints_any [0, 1, 2] (.slice ya 3 yc) (.slice (some ⟨w4.heap.size, 0, none⟩) 3 3) (w4.alloc (.cells (zcs [0, 1, 2]).toArray 3)) ((HI3.out.1.next hB5).next hb6) (Il_new w4 [0, 1, 2]) (by decide); have HB6 : Hid (Below w3.heap.size w3 (w4.alloc (.cells (zcs [0, 1, 2]).toArray 3))) := hB5.trans (hb6.mono hB5.size); clear hB4 hB5 hb6)
    | (go_at_call 13; refine h5.mono ?_; clear h5; rintro e w5 ⟨rfl, hB7⟩)
    | fail)
  go_ret
  exact ⟨rfl, HB3.out.1.trans ((HB6.out.trans (hB7.mono HB6.out.size)).mono HB3.out.2)⟩
end Go.Proofs.Ytcehmaegnfelhaa
