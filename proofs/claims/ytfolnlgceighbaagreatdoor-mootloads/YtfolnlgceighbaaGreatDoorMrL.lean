/- Moots: the law MootLoads, walked. -/
import Derived.Test.YtfolnlgceighbaaGreatDoorMrD
import Derived.Test.YtfolnlgceighbaaGreatDoorMrT
namespace Go.Proofs.YtfolnlgceighbaaGreatDoor
open Go.RowKit
attribute [local go_sem ↓] Go.wp_at_zero Go.wp_at_succ

set_option maxRecDepth 20000 in
set_option maxHeartbeats 4000000 in
theorem mloads_any (s : List UInt8) (w : World) (he : Env w) :
    Calls Tryz.prog 4 #[.string (bs s)] w fun e W' => e = .returned (.bool true) ∧ Below w.heap.size w W' := by
  have hss : (bs s).size = s.length := bs_size s
  by_cases h1 : 20000 < s.length
  · have hq1 : (20000 : Int) < (s.length : Int) := by omega
    have hO := one_any w
    clear h1 he
    go_enter Tryz.func4, Tryz.ntmps4
    go_wp2_with (first
      | (go_at_call 18; refine hO.mono ?_; rintro e w5 ⟨rfl, hb5⟩))
    go_ret
    exact ⟨rfl, hb5⟩
  · have hq1 : ¬ (20000 : Int) < (s.length : Int) := by omega
    have hL := MLoad_any s w (by omega) he
    have HR : Hid (∀ W, Calls Tryz.prog 20 #[.string (bs s)] W fun e W' => ∃ u c E, e = .returned (.tuple #[.agg #[u, c], .int .i64 E]) ∧ RLd s W' u c E ∧ Below W.heap.size W W') := fun W => rMLoad_any s W (by omega)
    have HP : Hid (∀ W, Below w.heap.size w W → EnvP W) := fun W hW => by have h := he.next hW; exact ⟨h.pow, h.size⟩
    clear h1 he
    cases hl : loadM s with
    | none =>
      have hL2 : Calls Tryz.prog 19 #[.string (bs s)] w fun e W' => e = .returned (.tuple #[.pointer none, .int .i64 4]) ∧ Below w.heap.size w W' := by
        refine hL.mono ?_
        rintro e W' ⟨p, E, rfl, h2, h3⟩
        unfold MLd at h2
        rw [hl] at h2
        obtain ⟨rfl, rfl⟩ := h2
        exact ⟨rfl, h3⟩
      have HR2 : Hid (∀ W, Calls Tryz.prog 20 #[.string (bs s)] W fun e W' => e = .returned (.tuple #[.agg #[.slice none 0 0, .slice none 0 0], .int .i64 4]) ∧ Below W.heap.size W W') := fun W => by
        refine (HR.out W).mono ?_
        rintro e W' ⟨u, c, E, rfl, h2, h3⟩
        unfold RLd at h2
        rw [hl] at h2
        obtain ⟨rfl, rfl, rfl⟩ := h2
        exact ⟨rfl, h3⟩
      have HO : Hid (∀ W, Calls Tryz.prog 18 #[] W fun e W' => e = .returned (.bool true) ∧ Below W.heap.size W W') := one_any
      clear hL hl HP HR
      go_enter Tryz.func4, Tryz.ntmps4
      go_upto_region 4 with (first
        | (go_at_call 19; refine hL2.mono ?_; clear hL2; rintro e w1 ⟨rfl, hb1⟩; have H1 : Hid (Below w.heap.size w w1) := hb1; clear hb1))
      have hR2 := HR2.out w1
      go_upto_region 5 with (first
        | (go_at_call 20; refine hR2.mono ?_; clear hR2; rintro e w2 ⟨rfl, hb2⟩; have H2 : Hid (Below w.heap.size w w2) := H1.out.trans (hb2.mono H1.out.size); clear hb2))
      have H3 : Hid (Below w.heap.size w (w2.alloc (.cells #[.slice none 0 0, .slice none 0 0] 51))) := H2.out.alloc H2.out.size _
      obtain ⟨W3, hW3⟩ : ∃ W, w2.alloc (.cells #[.slice none 0 0, .slice none 0 0] 51) = W := ⟨_, rfl⟩
      rw [hW3] at H3 ⊢
      have hO := HO.out W3
      clear hW3
      go_wp2_with (first
        | (go_at_call 18; refine hO.mono ?_; clear hO; rintro e w5 ⟨rfl, hb5⟩; have hB5 := H3.out.trans (hb5.mono H3.out.size); clear hb5))
      go_ret
      exact ⟨rfl, hB5⟩
    | some y =>
      obtain ⟨cs, T, cl⟩ := y
      obtain ⟨k1, k2, k3, k4, k5, k6⟩ := load_back hl
      have HK : Hid (mootT T cl = s ∧ (∀ x ∈ T, ok3 x) ∧ okK2 cl ∧ cl.length = 8 ∧ T.length ≤ 40 ∧ (knF 0 cl).length ≤ 8) := ⟨k1, k2, k3, k4, k5, k6⟩
      have hL2 : Calls Tryz.prog 19 #[.string (bs s)] w fun e W' => ∃ M B v u L, e = .returned (.tuple #[.pointer (some ⟨M, 0, none⟩), .int .i64 0]) ∧ MtAt w.heap.size W' M B v u L T cl ∧ Below w.heap.size w W' := by
        refine hL.mono ?_
        rintro e W' ⟨p, E, rfl, h2, h3⟩
        unfold MLd at h2
        rw [hl] at h2
        obtain ⟨rfl, M, B, v, u, L, rfl, _, h4⟩ := h2
        exact ⟨M, B, v, u, L, rfl, h4, h3⟩
      have HR2 : Hid (∀ W, Calls Tryz.prog 20 #[.string (bs s)] W fun e W' => ∃ ua uc ca cc, e = .returned (.tuple #[.agg #[.slice ua T.length uc, .slice ca (knF 0 cl).length cc], .int .i64 0]) ∧ (Cs W' (.slice ua T.length uc) T ∧ Cs W' (.slice ca (knF 0 cl).length cc) (knF 0 cl)) ∧ Below W.heap.size W W') := fun W => by
        refine (HR.out W).mono ?_
        rintro e W' ⟨u, c, E, rfl, h2, h3⟩
        unfold RLd at h2
        rw [hl] at h2
        obtain ⟨rfl, h4, h5⟩ := h2
        obtain ⟨ua, uc, rfl⟩ := h4.slice
        obtain ⟨ca, cc, rfl⟩ := h5.slice
        exact ⟨ua, uc, ca, cc, rfl, ⟨h4, h5⟩, h3⟩
      have HO : Hid (∀ W, Calls Tryz.prog 18 #[] W fun e W' => e = .returned (.bool true) ∧ Below W.heap.size W W') := one_any
      clear hL hl HR k1 k2 k3 k4 k5 k6
      go_enter Tryz.func4, Tryz.ntmps4
      go_upto_region 4 with (first
        | (go_at_call 19; refine hL2.mono ?_; clear hL2; rintro e w1 ⟨M, B, v, u, L, rfl, hM, hb1⟩; have H1 : Hid (Below w.heap.size w w1 ∧ MtAt w.heap.size w1 M B v u L T cl) := ⟨hb1, hM⟩; clear hb1 hM))
      have hR2 := HR2.out w1
      go_upto_region 5 with (first
        | (go_at_call 20; refine hR2.mono ?_; clear hR2; rintro e w2 ⟨ua, uc, ca, cc, rfl, hC, hb2⟩; have H2 : Hid (Below w1.heap.size w1 w2) := hb2; have HC : Hid (Cs w2 (.slice ua T.length uc) T ∧ Cs w2 (.slice ca (knF 0 cl).length cc) (knF 0 cl)) := hC; clear hb2 hC))
      have hb3 : Below w2.heap.size w2 (w2.alloc (.cells #[.slice ua T.length uc, .slice ca (knF 0 cl).length cc] 51)) := (Below.refl _ w2).alloc (Nat.le_refl _) _
      have r3 := heap_alloc_new w2 (.cells #[.slice ua T.length uc, .slice ca (knF 0 cl).length cc] 51)
      obtain ⟨W3, hW3⟩ : ∃ W, w2.alloc (.cells #[.slice ua T.length uc, .slice ca (knF 0 cl).length cc] 51) = W := ⟨_, rfl⟩
      obtain ⟨K, hK⟩ : ∃ K, w2.heap.size = K := ⟨_, rfl⟩
      rw [hW3] at hb3 r3 ⊢
      have hb13 := H2.out.trans (hb3.mono H2.out.size)
      have H3 : Hid (Below w.heap.size w W3) := H1.out.1.trans (hb13.mono H1.out.1.size)
      have hMT : Calls Tryz.prog 21 #[.pointer (some ⟨M, 0, none⟩)] W3 fun e W' => e = .returned (.string (bs s)) ∧ Below W3.heap.size W3 W' := by
        have := MText_any w.heap.size M B v u L T cl W3 (H1.out.2.next hb13) HK.out.2.1 HK.out.2.2.1 (HP.out _ H3.out)
        rw [HK.out.1] at this
        exact this
      rw [hK] at r3 ⊢
      have HRT : Hid (∀ W, Below W3.heap.size W3 W → Calls Tryz.prog 22 #[.pointer (some ⟨K, 0, none⟩)] W fun e W' => e = .returned (.string (bs s)) ∧ Below W.heap.size W W') := fun W hW => by
        have := rMText_any K _ _ T cl W ((hW.block K (Array.getElem?_eq_some_iff.1 r3).1).trans r3) ((HC.out.1.next hb3).next hW) ((HC.out.2.next hb3).next hW) HK.out.2.1 HK.out.2.2.2.2.1 HK.out.2.2.1 HK.out.2.2.2.1
        rw [HK.out.1] at this
        exact this
      clear hb3 r3 hW3 hK hb13 HR2 HC H2 H1
      go_wp2_with (first
        | (go_at_call 21; refine hMT.mono ?_; clear hMT; rintro e w4 ⟨rfl, hb4⟩; have H4 : Hid (Below W3.heap.size W3 w4) := hb4; clear hb4)
        | (go_at_call 22; have hg := H4.out; refine (HRT.out _ hg).mono ?_; rintro e w5 ⟨rfl, hb5⟩; have H5 : Hid (Below W3.heap.size W3 w5) := hg.trans (hb5.mono hg.size); clear hb5 hg)
        | (go_at_call 18; refine (HO.out _).mono ?_; rintro e w6 ⟨rfl, hb6⟩; have hg := H3.out.trans (H5.out.mono H3.out.size); have hB6 := hg.trans (hb6.mono hg.size); clear hb6 hg))
      go_ret
      exact ⟨rfl, hB6⟩
end Go.Proofs.YtfolnlgceighbaaGreatDoor
