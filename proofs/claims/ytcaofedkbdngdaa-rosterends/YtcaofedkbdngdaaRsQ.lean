/- The law RosterEnds, walked. -/
import Derived.Test.YtcaofedkbdngdaaRsR
namespace Go.Proofs.Ytcaofedkbdngdaa
open Go.RowKit
attribute [local go_sem ↓] Go.wp_at_zero Go.wp_at_succ

theorem othL_len (f g c pg pn : Int) : (othL f g c pg pn).length ≤ 10 := by
  unfold othL
  split
  · exact Nat.le_trans (butL_le _ _ _ _ _ _) (nN_le f g c)
  · simp
theorem alloc2 (w : World) (a b c d e : Value) : ((w.alloc (.cells #[a, b, c] 23)).alloc (.cells #[d, e] 37)).heap[w.heap.size]? = some (.cells #[a, b, c] 23) ∧ ((w.alloc (.cells #[a, b, c] 23)).alloc (.cells #[d, e] 37)).heap[w.heap.size + 1]? = some (.cells #[d, e] 37) := by
  refine ⟨(Below.heap_alloc _ _ _ (by simp)).trans (heap_alloc_new _ _), ?_⟩
  have := heap_alloc_new (w.alloc (.cells #[a, b, c] 23)) (.cells #[d, e] 37)
  rw [show (w.alloc (.cells #[a, b, c] 23)).heap.size = w.heap.size + 1 by simp] at this
  exact this
/-- What is held: the roster, the party, the two answers. -/
theorem hold9 {W0 : World} {B B2 B3 B4 : Nat} {a b c d e p q r s : Value} {t t2 : TypeId} (r1 : W0.heap[B]? = some (.cells #[a, b, c] t)) (r2 : W0.heap[B2]? = some (.cells #[d, e] t2)) (r3 : W0.heap[B3]? = some (.cells #[p, q] t2)) (r4 : W0.heap[B4]? = some (.cells #[r, s] t2)) : ∀ W', Below W0.heap.size W0 W' →
    W'.cell? ⟨B, 0, none⟩ = some a ∧ W'.cell? ⟨B, 1, none⟩ = some b ∧ W'.cell? ⟨B, 2, none⟩ = some c ∧ W'.cell? ⟨B2, 0, none⟩ = some d ∧ W'.cell? ⟨B2, 1, none⟩ = some e ∧ W'.cell? ⟨B3, 0, none⟩ = some p ∧ W'.cell? ⟨B3, 1, none⟩ = some q ∧ W'.cell? ⟨B4, 0, none⟩ = some r ∧ W'.cell? ⟨B4, 1, none⟩ = some s := by
  intro W' h
  obtain ⟨h1, h2, h3⟩ := hold3 r1 W' h
  obtain ⟨h4, h5⟩ := hold2 r2 W' h
  obtain ⟨h6, h7⟩ := hold2 r3 W' h
  obtain ⟨h8, h9⟩ := hold2 r4 W' h
  exact ⟨h1, h2, h3, h4, h5, h6, h7, h8, h9⟩
set_option maxRecDepth 20000 in
set_option maxHeartbeats 4000000 in
theorem ends_core (f g c pg pn e : Int) (w : World) (L : List (Int × Int)) (hlen : L.length ≤ 1000)
    (hL : ∀ W, Calls Try.prog 17 #[.int .i64 f, .int .i64 g, .int .i64 c] W fun x W' => (∃ u, x = .returned u ∧ W'.ownsRow W.heap.size 37 2 u L.length (pcs L)) ∧ Below W.heap.size W W')
    (key1 : ∀ v e, rEndIs L (pg, pn) v e → v = endV f g c pg pn ∧ e = endE f g c pg pn) (key2 : rpt L e = ((ptG f g c e, ptN f g c e), ptE f g c e)) (key3 : rgL L e (-1) L.length = grpL f g c e) (key4 : endE f g c pg pn = 0 → rgL L pg pn L.length = othL f g c pg pn) :
    Calls Try.prog 4 #[.agg #[.int .i64 f, .int .i64 g, .int .i64 c], .agg #[.int .i64 pg, .int .i64 pn], .int .i64 e] w fun x W' => x = .returned (.bool true) ∧ Below w.heap.size w W' := by
  have hb0 : Below w.heap.size w ((w.alloc (.cells #[.int .i64 f, .int .i64 g, .int .i64 c] 23)).alloc (.cells #[.int .i64 pg, .int .i64 pn] 37)) := ((Below.refl _ w).alloc (Nat.le_refl _) _).alloc (by simp) _
  obtain ⟨r0, r1⟩ := alloc2 w (.int .i64 f) (.int .i64 g) (.int .i64 c) (.int .i64 pg) (.int .i64 pn)
  have hl1 := grpL_len f g c e
  have hl2 := othL_len f g c pg pn
  have hR4 := oth_not (f := f) (g := g) (c := c) (pg := pg) (pn := pn)
  have hE := End_any f g c pg pn
  have hP := Party_any f g c e
  have hG := Group_any f g c e
  have hO := Others_any f g c pg pn
  obtain ⟨V, hV⟩ : ∃ v, endV f g c pg pn = v := ⟨_, rfl⟩
  obtain ⟨E, hEe⟩ : ∃ v, endE f g c pg pn = v := ⟨_, rfl⟩
  obtain ⟨A, hA⟩ : ∃ v, ptG f g c e = v := ⟨_, rfl⟩
  obtain ⟨N, hN⟩ : ∃ v, ptN f g c e = v := ⟨_, rfl⟩
  obtain ⟨X, hX⟩ : ∃ v, ptE f g c e = v := ⟨_, rfl⟩
  obtain ⟨GL, hGL⟩ : ∃ v, grpL f g c e = v := ⟨_, rfl⟩
  obtain ⟨OL, hOL⟩ : ∃ v, othL f g c pg pn = v := ⟨_, rfl⟩
  rw [hV, hEe] at hE
  simp only [hV, hEe] at key1
  rw [hA, hN, hX] at key2 hP
  rw [hGL] at key3 hG hl1
  rw [hOL] at key4 hR4 hO hl2
  rw [hEe] at key4 hR4
  clear hV hEe hA hN hX hGL hOL
  have HK : Hid (_ ∧ _ ∧ _ ∧ _ ∧ _) := ⟨key1, key2, key3, key4, hR4⟩
  clear key1 key2 key3 key4 hR4
  have HR : Hid (_ ∧ _) := ⟨r0, r1⟩
  clear r0 r1
  go_enter Try.func4, Try.ntmps4
  go_upto_region 1 with fail
  obtain ⟨r0, r1⟩ := HR.out
  clear HR
  obtain ⟨W0, hW0⟩ : ∃ W, (w.alloc (.cells #[.int .i64 f, .int .i64 g, .int .i64 c] 23)).alloc (.cells #[.int .i64 pg, .int .i64 pn] 37) = W := ⟨_, rfl⟩
  rw [hW0] at hb0 r0 r1 ⊢
  clear hW0
  have hH0 := hold32 r0 r1
  obtain ⟨c0, c1, c2, c3, c4⟩ := hH0 _ (Below.refl _ _)
  -- the document's list of ends
  go_upto_region 2 with (first
    | (go_at_call 17; refine (hL _).mono ?_; rintro x w1 ⟨⟨u, rfl, ho⟩, hb1⟩))
  obtain ⟨ua, uc, rfl⟩ := owns_slice ho
  obtain ⟨c0, c1, c2, c3, c4⟩ := hH0 _ hb1
  have hB1 := hb0.trans (hb1.mono hb0.size)
  have hE1 := hE w1
  clear hL hE
  -- the party's end
  go_upto_region 3 with (first
    | (go_at_call 18; refine hE1.mono ?_; rintro x w2 ⟨rfl, hb2⟩))
  have hB02 := hb1.trans (hb2.mono hb1.size)
  obtain ⟨c0, c1, c2, c3, c4⟩ := hH0 _ hB02
  have ho2 := owns_next ho hb2
  have hQ := rEnd_any ho2 hlen pg pn
  clear hE1 ho hb1 hB1
  go_upto_region 4 with (first
    | (go_at_call 19; refine hQ.mono ?_; rintro x w3 ⟨⟨a3, e3, rfl, hr3⟩, hb3⟩))
  obtain ⟨ha3, he3⟩ := HK.out.1 _ _ hr3
  replace ha3 := ha3.symm
  replace he3 := he3.symm
  subst ha3 he3
  have hB03 := hB02.trans (hb3.mono hB02.size)
  obtain ⟨c0, c1, c2, c3, c4⟩ := hH0 _ hB03
  have ho3 := owns_next ho2 hb3
  have hP3 := hP w3
  clear hQ ho2 hr3 hb2 hb3 hB02 hP
  -- whose the end is
  go_upto_region 5 with (first
    | (go_at_call 20; refine hP3.mono ?_; rintro x w4 ⟨rfl, hb4⟩))
  have hB04 := hB03.trans (hb4.mono hB03.size)
  have ho4 := owns_next ho3 hb4
  clear hP3 ho3 hb4 hB03
  have r4 := heap_alloc_new w4 (.cells #[.int .i64 A, .int .i64 N] 37)
  have hba4 : Below w4.heap.size w4 (w4.alloc (.cells #[.int .i64 A, .int .i64 N] 37)) := (Below.refl _ _).alloc (Nat.le_refl _) _
  have ho5 := owns_next ho4 hba4
  have hB05 := hB04.trans (hba4.mono hB04.size)
  obtain ⟨B4, hB4⟩ : ∃ B, w4.heap.size = B := ⟨_, rfl⟩
  obtain ⟨W5, hW5⟩ : ∃ W, w4.alloc (.cells #[.int .i64 A, .int .i64 N] 37) = W := ⟨_, rfl⟩
  rw [hW5] at r4 ho5 hB05 ⊢
  rw [hB4] at r4 ⊢
  have hS := rParty_any ho5 e A N X HK.out.2.1
  clear hB4 hW5 ho4 hba4 hB04
  go_upto_region 6 with (first
    | (go_at_call 21; refine hS.mono ?_; rintro x w6 ⟨rfl, hb6⟩))
  have r46 := (hb6.block B4 (Array.getElem?_eq_some_iff.1 r4).1).trans r4
  have hB06 := hB05.trans (hb6.mono hB05.size)
  have ho6 := owns_next ho5 hb6
  clear hS r4 ho5 hb6 hB05
  have r7 := heap_alloc_new w6 (.cells #[.int .i64 A, .int .i64 N] 37)
  have hba6 : Below w6.heap.size w6 (w6.alloc (.cells #[.int .i64 A, .int .i64 N] 37)) := (Below.refl _ _).alloc (Nat.le_refl _) _
  have ho7 := owns_next ho6 hba6
  have hB07 := hB06.trans (hba6.mono hB06.size)
  have r47 := (hba6.block B4 (Array.getElem?_eq_some_iff.1 r46).1).trans r46
  obtain ⟨B6, hB6⟩ : ∃ B, w6.heap.size = B := ⟨_, rfl⟩
  obtain ⟨W7, hW7⟩ : ∃ W, w6.alloc (.cells #[.int .i64 A, .int .i64 N] 37) = W := ⟨_, rfl⟩
  rw [hW7] at r7 ho7 hB07 r47 ⊢
  rw [hB6] at r7 ⊢
  have r07 := (hB07.block w.heap.size (Array.getElem?_eq_some_iff.1 r0).1).trans r0
  have r17 := (hB07.block (w.heap.size + 1) (Array.getElem?_eq_some_iff.1 r1).1).trans r1
  have hH7 := hold9 r07 r17 r47 r7
  have hBw := hb0.trans (hB07.mono hb0.size)
  obtain ⟨c0, c1, c2, c3, c4, c5, c6, c7, c8⟩ := hH7 _ (Below.refl _ _)
  have hRf := Below.refl W7.heap.size W7
  have hT7 := keepC two_any hH7
  have gO := fun W (hW : Below W7.heap.size W7 W) => (hO W).mono (fun x W' (h : (∃ u, x = .returned u ∧ W'.ownsRow W.heap.size 3 1 u OL.length (zcs OL)) ∧ Below W.heap.size W W') => (⟨h.1, hW.trans (h.2.mono hW.size), hH7 _ (hW.trans (h.2.mono hW.size)), h.2⟩ : _ ∧ _ ∧ _ ∧ _))
  have gG := fun W (hW : Below W7.heap.size W7 W) => (hG W).mono (fun x W' (h : (∃ u, x = .returned u ∧ W'.ownsRow W.heap.size 3 1 u GL.length (zcs GL)) ∧ Below W.heap.size W W') => (⟨h.1, hW.trans (h.2.mono hW.size), hH7 _ (hW.trans (h.2.mono hW.size)), h.2⟩ : _ ∧ _ ∧ _ ∧ _))
  have gR := fun (gr but : Int) W (hW : Below W7.heap.size W7 W) => (rGroup_any (owns_next ho7 hW) hlen gr but).mono (fun x W' (h : (∃ u, x = .returned u ∧ W'.ownsRow W.heap.size 3 1 u (rgL L gr but L.length).length (zcs (rgL L gr but L.length))) ∧ Below W.heap.size W W') => (⟨h.1, hW.trans (h.2.mono hW.size), hH7 _ (hW.trans (h.2.mono hW.size)), h.2⟩ : _ ∧ _ ∧ _ ∧ _))
  have gI := fun (ns : List Int) (hn : ns.length ≤ 10) (u v : Value) W (hW : Below W7.heap.size W7 W) (hu : Il W u ns) (hv : Il W v ns) => (Ints_any ns u v W hu hv (by omega)).mono (fun x W' (h : x = .returned (.bool true) ∧ Below W.heap.size W W') => (⟨h.1, hW.trans (h.2.mono hW.size), hH7 _ (hW.trans (h.2.mono hW.size)), h.2⟩ : _ ∧ _ ∧ _ ∧ _))
  have HG : Hid (rgL L e (-1) L.length = GL) := HK.out.2.2.1
  have HO : Hid (E = 0 → rgL L pg pn L.length = OL) := HK.out.2.2.2.1
  have HO2 : Hid (E ≠ 0 → OL = []) := HK.out.2.2.2.2
  clear hB6 hW7 HK ho6 hba6 hB06 r0 r1 r46 r07 r17 r47 r7 hH0 hB07 hH7 hO hG
  by_cases hE0 : E = 0
  · have HO3 : Hid (rgL L pg pn L.length = OL) := HO.out hE0
    subst hE0
    clear HO HO2
    go_upto_region 9 with (first
      | (go_at_call 22; refine (gR _ _ _ (by assumption)).mono ?_; rintro x w8 ⟨⟨u8, rfl, ho8⟩, hb8, ⟨c0, c1, c2, c3, c4, c5, c6, c7, c8⟩, _⟩))
    rw [HO3.out] at ho8
    have hI8 := Il_owns ho8
    go_wp2_with (first
      | (go_at_call 24; refine (gO w8 hb8).mono ?_; rintro x w9 ⟨⟨u9, rfl, ho9⟩, hb9, ⟨c0, c1, c2, c3, c4, c5, c6, c7, c8⟩, hbx9⟩; have hI9 := Il_owns ho9; have hI89 := hI8.below hbx9 (Nat.le_refl _))
      | (go_at_call 25; refine (gG _ (by assumption)).mono ?_; rintro x w11 ⟨⟨u11, rfl, ho11⟩, hb11, ⟨c0, c1, c2, c3, c4, c5, c6, c7, c8⟩, _⟩; have hI11 := Il_owns ho11)
      | (go_at_call 22; refine (gR _ _ _ hb11).mono ?_; rintro x w12 ⟨⟨u12, rfl, ho12⟩, hb12, ⟨c0, c1, c2, c3, c4, c5, c6, c7, c8⟩, hbx12⟩; rw [HG.out] at ho12; have hI12 := Il_owns ho12; have hI112 := hI11.below hbx12 (Nat.le_refl _))
      | (go_at_call 23; refine (gI GL hl1 _ _ _ hb12 hI112 hI12).mono ?_; rintro x w13 ⟨rfl, hb13, ⟨c0, c1, c2, c3, c4, c5, c6, c7, c8⟩, _⟩)
      | (go_at_call 23; refine (gI OL hl2 _ _ _ hb9 hI9 hI89).mono ?_; rintro x w10 ⟨rfl, hb10, ⟨c0, c1, c2, c3, c4, c5, c6, c7, c8⟩, _⟩)
      | (go_at_call 16; refine (hT7 _ hb13).mono ?_; rintro x w14 ⟨rfl, hb14, _⟩))
    go_ret
    exact ⟨rfl, hBw.trans (hb14.mono hBw.size)⟩
  · have HO3 : Hid (OL = []) := HO2.out hE0
    have hq : (E == 0) = false := by simp [hE0]
    clear HO HO2 hE0
    have hOL := HO3.out
    subst hOL
    clear HO3
    go_wp2_with (first
      | (go_at_call 24; refine (gO W7 hRf).mono ?_; rintro x w9 ⟨⟨u9, rfl, ho9⟩, hb9, ⟨c0, c1, c2, c3, c4, c5, c6, c7, c8⟩, hbx9⟩; have hI9 := Il_owns ho9)
      | (go_at_call 25; refine (gG _ (by assumption)).mono ?_; rintro x w11 ⟨⟨u11, rfl, ho11⟩, hb11, ⟨c0, c1, c2, c3, c4, c5, c6, c7, c8⟩, _⟩; have hI11 := Il_owns ho11)
      | (go_at_call 22; refine (gR _ _ _ hb11).mono ?_; rintro x w12 ⟨⟨u12, rfl, ho12⟩, hb12, ⟨c0, c1, c2, c3, c4, c5, c6, c7, c8⟩, hbx12⟩; rw [HG.out] at ho12; have hI12 := Il_owns ho12; have hI112 := hI11.below hbx12 (Nat.le_refl _))
      | (go_at_call 23; refine (gI GL hl1 _ _ _ hb12 hI112 hI12).mono ?_; rintro x w13 ⟨rfl, hb13, ⟨c0, c1, c2, c3, c4, c5, c6, c7, c8⟩, _⟩)
      | (go_at_call 23; refine (gI [] (by decide) _ _ _ hb9 hI9 (.inl ⟨rfl, none, 0, rfl⟩)).mono ?_; rintro x w10 ⟨rfl, hb10, ⟨c0, c1, c2, c3, c4, c5, c6, c7, c8⟩, _⟩)
      | (go_at_call 16; refine (hT7 _ hb13).mono ?_; rintro x w14 ⟨rfl, hb14, _⟩))
    go_ret
    exact ⟨rfl, hBw.trans (hb14.mono hBw.size)⟩
theorem ends_any (f g c pg pn e : Int) (w : World) : Calls Try.prog 4 #[.agg #[.int .i64 f, .int .i64 g, .int .i64 c], .agg #[.int .i64 pg, .int .i64 pn], .int .i64 e] w fun x W' => x = .returned (.bool true) ∧ Below w.heap.size w W' := by
  cases h : Rt f g c
  · refine ends_core f g c pg pn e w [] (by decide) (fun W => (rEnds_wrong h W).mono ?_) (fun v e he => rEnd_wrong h he) (rpt_wrong h e) ((grp_wrong h e).symm) (fun he => ?_)
    · rintro x W' ⟨rfl, rfl⟩
      exact ⟨⟨_, rfl, World.ownsRow_nil _ _ _ _⟩, Below.refl _ _⟩
    · have : endE f g c pg pn = 1 := by simp [endE, h]
      rw [this] at he; cases he
  · have hb := Rt_b h
    obtain ⟨n, hn⟩ : ∃ n : Nat, (n : Int) = 3 * f + 1 := ⟨(3 * f + 1).toNat, by omega⟩
    obtain ⟨G, hG⟩ : ∃ n : Nat, (n : Int) = g + 1 := ⟨(g + 1).toNat, by omega⟩
    obtain ⟨C, hC⟩ : ∃ n : Nat, (n : Int) = c := ⟨c.toNat, by omega⟩
    have hRL : RL f g c n G C := ⟨h, hn, hG, hC⟩
    have hlen : (paL n G (G * n + C)).length = G * n + C := paL_len n G _
    have hGn : G * n ≤ 50 := by
      have : G * n ≤ 5 * 10 := Nat.mul_le_mul (by omega) (by omega)
      omega
    refine ends_core f g c pg pn e w (paL n G (G * n + C)) (by omega) (fun W => ?_) (fun v e he => rEnd_right hRL he) (rpt_right hRL e) ?_ ?_
    · rw [hlen]; exact rEnds_right h n G C hn hG hC W
    · rw [hlen]; exact grp_right hRL e
    · rw [hlen]; exact fun he => oth_right hRL he
end Go.Proofs.Ytcaofedkbdngdaa
