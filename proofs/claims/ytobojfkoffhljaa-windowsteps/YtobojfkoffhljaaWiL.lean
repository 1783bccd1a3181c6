/- moves, walked. -/
import Derived.Test.YtobojfkoffhljaaWiI
import Derived.Test.YtobojfkoffhljaaWiK
namespace Go.Proofs.Ytobojfkoffhljaa
open Go.RowKit Go.Maps
attribute [local go_sem ↓] Go.wp_at_zero Go.wp_at_succ

set_option maxRecDepth 20000 in
set_option maxHeartbeats 4000000 in
theorem moves_any (w : World) : Calls Try.prog 10 #[] w fun e W' => e = .returned (.bool true) ∧ Below w.heap.size w W' := by
  have hN := wNew_ok (g := 1) (f := 1) rfl (by omega) w.heap.size w (Nat.le_refl _)
  go_enter Try.func10, Try.ntmps10
  go_wp2_with (first
    | (go_at_call 8; refine hN.mono ?_; rintro e w1 ⟨rfl, h1, hb1⟩; have hA := At_new h1 (by simp) (view := 0) (n := 8) rfl (by simp))
    | (go_at_call 18; refine hA.mono ?_; rintro e w2 ⟨b2, ms2, rfl, h2, hs2, hbs2, hv2⟩; have HH : Hid (_ ∧ _) := ⟨h2, h1.bel hv2 (Nat.le_refl _)⟩; have HB1 : Hid (Below w.heap.size w w1) := hb1; have hA2 := At_bad h2 (view := 0) (n := 9) (by decide); rw [show askE 0 0 9 = 6 from rfl] at hA2; clear hA h1 h2 hs2 hbs2 hv2 hb1)
    | (go_at_call 18; refine hA2.mono ?_; rintro e w3 ⟨rfl, h9⟩; replace h9 := h9.symm; subst h9; have hR := Raise_ok HH.out.1 (x := 4) rfl (by decide); clear hA2)
    | (go_at_call 24; refine hR.mono ?_; rintro e w3 ⟨rfl, h3, hv3⟩; have HH3 : Hid (_ ∧ _) := ⟨h3, HH.out.1.bel hv3 (Nat.le_refl _)⟩; have hA3 := At_bad h3 (view := 0) (n := 4) (by decide); rw [show askE 4 0 4 = 6 from rfl] at hA3; clear hR h3 hv3)
    | (go_at_call 18; refine hA3.mono ?_; rintro e w4 ⟨rfl, h9⟩; replace h9 := h9.symm; subst h9; have hA4 := At_new HH3.out.1 (by simp) (view := 0) (n := 12) rfl (by simp); clear hA3)
    | (go_at_call 18; refine hA4.mono ?_; rintro e w5 ⟨b5, ms5, rfl, h5, hs5, hbs5, hv5⟩; have HH5 : Hid (_ ∧ _) := ⟨h5, HH3.out.1.bel hv5 (Nat.le_refl _)⟩; have hL := Low_any h5; clear hA4 h5 hs5 hbs5 hv5)
    | (go_at_call 14; refine hL.mono ?_; rintro e w6 ⟨rfl, h9⟩; replace h9 := h9.symm; subst h9; clear hL))
  go_ret
  exact ⟨rfl, ((HB1.out.trans HH.out.2).trans HH3.out.2).trans HH5.out.2⟩
end Go.Proofs.Ytobojfkoffhljaa
