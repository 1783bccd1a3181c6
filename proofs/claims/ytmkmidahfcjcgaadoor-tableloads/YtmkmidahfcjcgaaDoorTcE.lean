/- The law TableLoads, walked. -/
import Derived.Test.YtmkmidahfcjcgaaDoorTcB
import Derived.Test.YtmkmidahfcjcgaaDoorTcD
namespace Go.Proofs.YtmkmidahfcjcgaaDoor
open Go.RowKit
attribute [local go_sem ↓] Go.wp_at_zero Go.wp_at_succ

set_option maxRecDepth 20000 in
set_option maxHeartbeats 4000000 in
theorem loads_any (s : List UInt8) (w : World) (he : Env w) (hs : s.length ≤ 140737488351232) : Calls Tryd.prog 4 #[.string (bs s)] w fun e W' => e = .returned (.bool true) ∧ Below w.heap.size w W' := by
  have hsz : (bs s).size = s.length := bs_size s
  have HF : Hid (∀ W, Below w.heap.size w W → Calls Tryd.prog 10 #[] W fun e W' => e = .returned (.bool true) ∧ Below W.heap.size W W') := fun W hb => four_any W (he.p.next hb)
  by_cases hl : 20000 < s.length
  · have hl2 : (20000 : Int) < (s.length : Int) := by omega
    have hF := HF.out w (Below.refl _ _)
    clear he HF
    go_enter Tryd.func4, Tryd.ntmps4
    go_wp2_with (go_at_call 10; refine hF.mono ?_; rintro e w2 ⟨rfl, hb2⟩)
    go_ret
    exact ⟨rfl, hb2⟩
  · have hl2 : (s.length : Int) ≤ 20000 := by omega
    have hL := Load_any s w (by omega) he
    have HR : Hid (∀ W, Calls Tryd.prog 20 #[.string (bs s)] W fun e W' => rLoadPost W (loadR s) e W') := fun W => rLoad_any s W (by omega)
    cases hZ : loadR s with
    | none =>
      rw [hZ] at hL HR
      go_enter Tryd.func4, Tryd.ntmps4
      go_upto_region 7 with (first
        | (go_at_call 19; refine hL.mono ?_; clear hL; rintro e w1 ⟨rfl, hb1⟩; have hR := HR.out w1; clear HR)
        | (go_at_call 20; refine hR.mono ?_; clear hR; rintro e w2 ⟨rfl, hb2⟩))
      have hB2 := hb1.trans (hb2.mono hb1.size)
      have hB3 := hB2.alloc hB2.size (.cells #[.slice none 0 0] 29)
      obtain ⟨w3, hw3⟩ : ∃ W, w2.alloc (.cells #[.slice none 0 0] 29) = W := ⟨_, rfl⟩
      rw [hw3] at hB3 ⊢
      have g10 : ∀ x : Cg w3, Calls Tryd.prog 10 #[] x.w fun e w'' => e = .returned (.bool true) ∧ ∃ y : Cg w3, w'' = y.w := fun x => by
        refine (HF.out x.w (hB3.trans (x.h.mono hB3.size))).mono ?_
        rintro e W' ⟨rfl, h⟩
        exact ⟨rfl, ⟨W', x.h.trans (h.mono x.h.size)⟩, rfl⟩
      have hne : Nonempty (Cg w3) := ⟨⟨w3, Below.refl _ _⟩⟩
      have HB3 : Hid (Below w.heap.size w w3) := hB3
      clear hw3 hB2 hB3 hb1 hb2 HF
      refine wp_region_grown (W0 := w3) (by kernel_rfl) (by kernel_rfl) (Below.refl _ _) ?_
      repeat (go_big_quiet_step (first | (go_at_call 10; exact g10 _)))
      refine wpQuiet_nil ?_
      rintro _ ⟨xx, rfl⟩
      have HX : Hid (_) := HB3.out.trans (xx.h.mono HB3.out.size)
      clear g10 hne
      go_wp2
      exact bodyPost_ret (v := .bool true) (by simp [results, Tryd.f4, go_sem]) rfl ⟨rfl, HX.out⟩
    | some l =>
      obtain ⟨hok, htx⟩ := ok_load hZ
      rw [hZ] at hL HR
      go_enter Tryd.func4, Tryd.ntmps4
      go_upto_region 7 with (first
        | (go_at_call 19; refine hL.mono ?_; clear hL; rintro e w1 ⟨B, v, rfl, hB, ht, ho, hb1⟩; have hR := HR.out w1; clear HR)
        | (go_at_call 20; refine hR.mono ?_; clear hR; rintro e w2 ⟨ra, rc, rfl, hown, hb2⟩))
      have hB2 := hb1.trans (hb2.mono hb1.size)
      have hB3 := hB2.alloc hB2.size (.cells #[.slice ra l.length rc] 29)
      have hn3 := heap_alloc_new w2 (.cells #[.slice ra l.length rc] 29)
      have ht3 := (ht.on hb2).on ((Below.refl _ w2).alloc (Nat.le_refl _) (.cells #[.slice ra l.length rc] 29))
      obtain ⟨w3, hw3⟩ : ∃ W, w2.alloc (.cells #[.slice ra l.length rc] 29) = W := ⟨_, rfl⟩
      rw [hw3] at hB3 hn3 ht3 ⊢
      have g10 : ∀ x : Cg w3, Calls Tryd.prog 10 #[] x.w fun e w'' => e = .returned (.bool true) ∧ ∃ y : Cg w3, w'' = y.w := fun x => by
        refine (HF.out x.w (hB3.trans (x.h.mono hB3.size))).mono ?_
        rintro e W' ⟨rfl, h⟩
        exact ⟨rfl, ⟨W', x.h.trans (h.mono x.h.size)⟩, rfl⟩
      have g16 : ∀ x : Cg w3, Calls Tryd.prog 16 #[.pointer (some ⟨B, 0, none⟩)] x.w fun e w'' => e = .returned (.string (bs s)) ∧ ∃ y : Cg w3, w'' = y.w := fun x => by
        have := Text_any (ht3.on x.h) (he.p.next (hB3.trans (x.h.mono hB3.size)))
        rw [htx] at this
        refine this.mono ?_
        rintro e W' ⟨rfl, h⟩
        exact ⟨rfl, ⟨W', x.h.trans (h.mono x.h.size)⟩, rfl⟩
      have g18 : ∀ x : Cg w3, Calls Tryd.prog 18 #[.pointer (some ⟨B, 0, none⟩)] x.w fun e w'' => e = .returned (.int .i64 l.length) ∧ ∃ y : Cg w3, w'' = y.w := fun x => by
        refine (Len_any (ht3.on x.h)).mono ?_
        rintro e W' ⟨rfl, rfl⟩
        exact ⟨rfl, x, rfl⟩
      have hl3 := (Array.getElem?_eq_some_iff.1 hn3).1
      have kC : ∀ x : Cg w3, x.w.cell? ⟨w2.heap.size, 0, none⟩ = some (.slice ra l.length rc) := fun x => cellB ((x.h.block _ hl3).trans hn3) 0 _ rfl
      have hne : Nonempty (Cg w3) := ⟨⟨w3, Below.refl _ _⟩⟩
      have hss := str_same s
      have hll : ((l.length : Int) == (l.length : Int)) = true := by simp
      have HB3 : Hid (Below w.heap.size w w3) := hB3
      clear hw3 hB2 hB3 hb1 hb2 HF hn3 ht3 ht ho hown hok htx hZ
      refine wp_region_grown (W0 := w3) (by kernel_rfl) (by kernel_rfl) (Below.refl _ _) ?_
      repeat (go_big_quiet_step (first | (go_at_call 10; exact g10 _) | (go_at_call 16; exact g16 _) | (go_at_call 18; exact g18 _)))
      refine wpQuiet_nil ?_
      rintro _ ⟨xx, rfl⟩
      have HX : Hid (_) := HB3.out.trans (xx.h.mono HB3.out.size)
      clear g10 g16 g18 kC hne
      go_wp2
      exact bodyPost_ret (v := .bool true) (by simp [results, Tryd.f4, go_sem]) rfl ⟨rfl, HX.out⟩
end Go.Proofs.YtmkmidahfcjcgaaDoor
