/- WindowKeeps, where there is a slot, walked. -/
import Derived.Test.YtobojfkoffhljaaWiP
namespace Go.Proofs.Ytobojfkoffhljaa
open Go.RowKit Go.Maps
attribute [local go_sem ↓] Go.wp_at_zero Go.wp_at_succ

set_option maxRecDepth 20000 in
set_option maxHeartbeats 2000000 in
theorem keep_good {f : Nat} (hf : f ≤ 3) {view n : Int} (hE : askE 0 view n = 0) (w : World) : Calls Try.prog 4 #[.int .i64 f, .int .i64 view, .int .i64 n] w fun e W' => e = .returned (.bool true) ∧ Below w.heap.size w W' := by
  have hN := wNew_ok (g := 1) (f := f) rfl hf w.heap.size w (Nat.le_refl _)
  have hM := fun W => moves_any W
  obtain ⟨a1, a2, a3, a4⟩ := askE_0 hE
  have HE : Hid (askE 0 view n = 0) := hE
  have hpr : view % (3 * (f : Int) + 1) = (primN view f : Int) := by
    unfold primN
    have h2 := Int.emod_nonneg view (show (3 * (f : Int) + 1) ≠ 0 by omega)
    omega
  have hpl := primN_le view f
  obtain ⟨p, hp⟩ : ∃ p, primN view f = p := ⟨_, rfl⟩
  have HP : Hid (primN view f = p) := hp
  rw [hp] at hpr hpl
  have HL : Hid (p ≤ 3 * f) := hpl
  have p9 : (p : Int) ≤ 9 := by omega
  obtain ⟨m, hm⟩ : ∃ m, 3 * (f : Int) = m := ⟨_, rfl⟩
  obtain ⟨k, hk⟩ : ∃ k, m + 1 = k := ⟨_, rfl⟩
  have v2 : IntKind.i64.wrap (3 * (f : Int)) = m := by rw [← hm]; exact wrap_id (by omega) (by omega)
  have v3 : IntKind.i64.wrap (m + 1) = k := by rw [← hk]; exact wrap_id (by omega) (by omega)
  have kp : 0 < k := by omega
  have k10 : k ≤ 10 := by omega
  have hpe : view % k = (p : Int) := by rw [← hk, ← hm]; exact hpr
  have hpt : view.tmod k = (p : Int) := by rw [Int.tmod_eq_emod_of_nonneg a1]; exact hpe
  have hk0 : ¬ k = 0 := by omega
  have hk1 : (k == 0) = false := by simp; omega
  have hpw : IntKind.i64.wrap (p : Int) = (p : Int) := wrap_id (by omega) (by omega)
  have HV : Hid (_) := vote_one hpl
  clear hE hp hpr hpl hm hk hpe
  by_cases vm : view < 1099511627776
  · have HD : Hid (view < 1099511627776) := vm
    go_enter Try.func4, Try.ntmps4
    go_wp2_with (first
      | (go_at_call 8; refine hN.mono ?_; rintro e w1 ⟨rfl, h1, hb1⟩; have H1 : Hid (_ ∧ _) := ⟨h1, hb1⟩; have hA1 := At_new h1 (by simp) HE.out (by simp); rw [HP.out] at hA1; clear h1 hb1)
      | (go_at_call 18; refine hA1.mono ?_; rintro e w2 ⟨b, ms2, rfl, h2, hs2, hbs2, hv2⟩; have H2 : Hid (Kp w w.heap.size b ms2 f p [(view, n, b)] (fun _ _ => ([], [])) w2) := ⟨h2, hs2, (by have := H1.out.1.lt; omega), H1.out.2.trans (H1.out.1.bel hv2 (Nat.le_refl _)), (by have := H1.out.1.lt; omega)⟩; have hVt := Vote_any hs2 1 p [97] tagK true 0 _ HV.out; rw [show bs [97] = ⟨#[97]⟩ from rfl, show bs tagK = ⟨#[48, 49, 50, 51, 52, 53, 54, 55, 56, 57, 97, 98, 99, 100, 101, 102]⟩ from rfl] at hVt; clear h2 hs2 hbs2 hv2 hA1)
      | (go_at_call 19; refine hVt.mono ?_; rintro e w3 ⟨rfl, hs3, hm3⟩; have H3 : Hid (_) := H2.out.mv hs3 hm3; have hA2 := At_there H3.out.win HE.out (b := b) (by simp); clear hs3 hm3 hVt)
      | (go_at_call 18; refine hA2.mono ?_; rintro e w4 ⟨rfl, hb4⟩; have H4 : Hid (_) := H3.out.on hb4; have hPr := Proposal_any H4.out.slot; rw [show (oneV p [97] tagK 0 p).1 = [97] by simp [oneV, updV], show isV (oneV p [97] tagK 0 p).2 = true by simp [oneV, updV, tagK, isV]] at hPr; rw [show bs [97] = ⟨#[97]⟩ from rfl] at hPr; clear hb4 hA2)
      | (go_at_call 20; refine hPr.mono ?_; rintro e w5 ⟨rfl, hb5⟩; have H5 : Hid (_) := H4.out.on hb5; have hLv := Leave_any H5.out.win view; rw [show ([(view, n, b)] : List Sk).filter (fun a => !(decide (a.1 < view))) = [(view, n, b)] by simp] at hLv; clear hb5 hPr)
      | (go_at_call 21; refine hLv.mono ?_; rintro e w6 ⟨rfl, h6, hv6⟩; have H6 : Hid (_) := H5.out.wv h6 hv6; have hA3 := At_there H6.out.win HE.out (b := b) (by simp); clear h6 hv6 hLv)
      | (go_at_call 18; refine hA3.mono ?_; rintro e w7 ⟨rfl, hb7⟩; have H7 : Hid (_) := H6.out.on hb7; have hVs := Votes_any H7.out.slot 1; rw [show votesN (oneV p [97] tagK) f 1 = 1 by (show cntTo _ 0 (3 * f + 1) = 1; rw [cnt_one _ _ _ (by simp [isV, tagK]), if_pos (by have := HL.out; omega)])] at hVs; clear hb7 hA3)
      | (go_at_call 22; refine hVs.mono ?_; rintro e w8 ⟨rfl, hb8⟩; have H8 : Hid (_) := H7.out.on hb8; have hLw := Leave_any H8.out.win (view + 1); rw [show ([(view, n, b)] : List Sk).filter (fun a => !(decide (a.1 < view + 1))) = [] by (simp; omega)] at hLw; clear hb8 hVs)
      | (go_at_call 21; refine hLw.mono ?_; rintro e w9 ⟨rfl, h9, hv9⟩; have H9 : Hid (_) := H8.out.wv h9 hv9; have hA4 := At_new H9.out.win (by simp) HE.out (by simp); rw [HP.out] at hA4; clear h9 hv9 hLw)
      | (go_at_call 18; refine hA4.mono ?_; rintro e w10 ⟨b2, ms10, rfl, h10, hs10, hbs10, hv10⟩; have H10 : Hid (Below w.heap.size w w10) := H9.out.bel.trans (H9.out.win.bel hv10 (Nat.le_refl _)); have hVz := Votes_any hs10 1; rw [show votesN (fun _ _ => ([], [])) f 1 = 0 from cnt_none 0 _] at hVz; clear h10 hs10 hbs10 hv10 hA4)
      | (go_at_call 22; refine hVz.mono ?_; rintro e w11 ⟨rfl, hb11⟩; have H11 : Hid (_) := H10.out.trans (hb11.mono H10.out.size); clear hb11 hVz)
      | (go_at_call 10; refine (hM _).mono ?_; rintro e w12 ⟨rfl, hb12⟩))
    go_ret
    exact ⟨rfl, H11.out.trans (hb12.mono H11.out.size)⟩
  · have hge : 1099511627776 ≤ view := by omega
    go_enter Try.func4, Try.ntmps4
    go_wp2_with (first
      | (go_at_call 8; refine hN.mono ?_; rintro e w1 ⟨rfl, h1, hb1⟩; have H1 : Hid (_ ∧ _) := ⟨h1, hb1⟩; have hA1 := At_new h1 (by simp) HE.out (by simp); rw [HP.out] at hA1; clear h1 hb1)
      | (go_at_call 18; refine hA1.mono ?_; rintro e w2 ⟨b, ms2, rfl, h2, hs2, hbs2, hv2⟩; have H2 : Hid (Kp w w.heap.size b ms2 f p [(view, n, b)] (fun _ _ => ([], [])) w2) := ⟨h2, hs2, (by have := H1.out.1.lt; omega), H1.out.2.trans (H1.out.1.bel hv2 (Nat.le_refl _)), (by have := H1.out.1.lt; omega)⟩; have hVt := Vote_any hs2 1 p [97] tagK true 0 _ HV.out; rw [show bs [97] = ⟨#[97]⟩ from rfl, show bs tagK = ⟨#[48, 49, 50, 51, 52, 53, 54, 55, 56, 57, 97, 98, 99, 100, 101, 102]⟩ from rfl] at hVt; clear h2 hs2 hbs2 hv2 hA1)
      | (go_at_call 19; refine hVt.mono ?_; rintro e w3 ⟨rfl, hs3, hm3⟩; have H3 : Hid (_) := H2.out.mv hs3 hm3; have hA2 := At_there H3.out.win HE.out (b := b) (by simp); clear hs3 hm3 hVt)
      | (go_at_call 18; refine hA2.mono ?_; rintro e w4 ⟨rfl, hb4⟩; have H4 : Hid (_) := H3.out.on hb4; have hPr := Proposal_any H4.out.slot; rw [show (oneV p [97] tagK 0 p).1 = [97] by simp [oneV, updV], show isV (oneV p [97] tagK 0 p).2 = true by simp [oneV, updV, tagK, isV]] at hPr; rw [show bs [97] = ⟨#[97]⟩ from rfl] at hPr; clear hb4 hA2)
      | (go_at_call 20; refine hPr.mono ?_; rintro e w5 ⟨rfl, hb5⟩; have H5 : Hid (_) := H4.out.on hb5; have hLv := Leave_any H5.out.win view; rw [show ([(view, n, b)] : List Sk).filter (fun a => !(decide (a.1 < view))) = [(view, n, b)] by simp] at hLv; clear hb5 hPr)
      | (go_at_call 21; refine hLv.mono ?_; rintro e w6 ⟨rfl, h6, hv6⟩; have H6 : Hid (_) := H5.out.wv h6 hv6; have hA3 := At_there H6.out.win HE.out (b := b) (by simp); clear h6 hv6 hLv)
      | (go_at_call 18; refine hA3.mono ?_; rintro e w7 ⟨rfl, hb7⟩; have H7 : Hid (_) := H6.out.on hb7; have hVs := Votes_any H7.out.slot 1; rw [show votesN (oneV p [97] tagK) f 1 = 1 by (show cntTo _ 0 (3 * f + 1) = 1; rw [cnt_one _ _ _ (by simp [isV, tagK]), if_pos (by have := HL.out; omega)])] at hVs; clear hb7 hA3)
      | (go_at_call 22; refine hVs.mono ?_; rintro e w8 ⟨rfl, hb8⟩; have H8 : Hid (_) := H7.out.on hb8; have hA4 := At_there H8.out.win HE.out (b := b) (by simp); clear hb8 hVs)
      | (go_at_call 18; refine hA4.mono ?_; rintro e w10 ⟨rfl, hb10⟩; have H11 : Hid (_) := (H8.out.on hb10).bel; clear hb10 hA4)
      | (go_at_call 10; refine (hM _).mono ?_; rintro e w12 ⟨rfl, hb12⟩))
    go_ret
    exact ⟨rfl, H11.out.trans (hb12.mono H11.out.size)⟩
theorem keeps_any (f0 view n : Int) (w : World) : Calls Try.prog 4 #[.int .i64 f0, .int .i64 view, .int .i64 n] w fun e W' => e = .returned (.bool true) ∧ Below w.heap.size w W' := by
  cases hf : (inB 1 4 && inB f0 3)
  · exact keep_bad hf w
  · have h3 : 0 ≤ f0 ∧ f0 ≤ 3 := by simpa [inB] using hf
    obtain ⟨f, rfl⟩ : ∃ f : Nat, f0 = f := ⟨f0.toNat, by omega⟩
    by_cases hE : askE 0 view n = 0
    · exact keep_good (by omega) hE w
    · exact keep_ask (by omega) hE w
end Go.Proofs.Ytobojfkoffhljaa
