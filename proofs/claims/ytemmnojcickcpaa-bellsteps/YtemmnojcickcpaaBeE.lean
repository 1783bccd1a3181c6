/- container/heap's down, walked over the bell's queue. -/
import Derived.Test.YtemmnojcickcpaaBeD
namespace Go.Proofs.Ytemmnojcickcpaa
open Go.RowKit
attribute [local go_sem ↓] Go.wp_at_zero Go.wp_at_succ

theorem par_iff {d i : Nat} (hd : 0 < d) : par d = i ↔ d = 2 * i + 1 ∨ d = 2 * i + 2 := by unfold par; omega
theorem ret_bool {a b : Bool} (h : a = b) : Ending.returned (.bool a) = .returned (.bool b) := by rw [h]
set_option maxRecDepth 20000 in
set_option maxHeartbeats 8000000 in
theorem down_any {base : Nat} {w : World} {B N : Nat} {a : Option Addr} {cap : Nat} {l : List Tm} {now : Int} (h : BellAt base w B (.slice a N cap) l now) (hN : l.length = N) (hN4 : N ≤ 1000) (n i0 : Nat) (hn : n ≤ N) (hi0 : i0 < n ∨ i0 = 0) (hD : DnI n (gf l) i0) :
    Calls Try.prog 53 #[.iface 94 (.pointer (some ⟨B, 0, none⟩)), .int .i64 i0, .int .i64 n] w fun e W' => ∃ (b : Bool) (l' : List Tm), e = .returned (.bool b) ∧ BellAt base W' B (.slice a N cap) l' now ∧ l'.Perm l ∧ (b = true → Hp n (gf l')) ∧ (b = false → UpI n (gf l') i0) ∧ (∀ k, n ≤ k → gf l' k = gf l k) ∧ Moved B (.slice a N cap) (.slice a N cap) w W' := by
  have hn1 : (n : Int) ≤ 1000 := by omega
  go_enter Try.func53, Try.ntmps53
  go_wp2_with fail
  go_loopg [7] (N + 1 - i0) (fun gk p wr => ∃ (i : Nat) (l' : List Tm), p = .int .i64 i ∧ i + gk = N + 1 ∧ i0 ≤ i ∧ (i < n ∨ i = i0) ∧ BellAt base wr B (.slice a N cap) l' now ∧ Hid (l'.Perm l) ∧ Hid (DnI n (gf l') i) ∧ Hid (i0 < i → ¬ lessB (gf l' i) (gf l' (par i)) = true) ∧ Hid (∀ k, n ≤ k → gf l' k = gf l k) ∧ Moved B (.slice a N cap) (.slice a N cap) w wr)
  case atStart => exact ⟨i0, l, rfl, by omega, Nat.le_refl _, .inr rfl, h, List.Perm.refl _, hD, fun h => absurd h (by omega), fun _ _ => rfl, Moved.refl _ _ _⟩
  case round =>
    obtain ⟨i, l', rfl, hig, hii, hin, hb, HP, HD, HG, HF, hM⟩ := hrel
    have hNl : l'.length = N := HP.out.length_eq.trans hN
    have hi1 : (i : Int) ≤ 1000 := by omega
    have hi2 : (0 : Int) ≤ (i : Int) := by omega
    -- the end of the loop: no child is ahead of it
    have HE : Hid ((∀ d, 0 < d → d < n → par d = i → ¬ lessB (gf l' d) (gf l' i) = true) → ∀ b : Bool, b = decide (i0 < i) → (b = true → Hp n (gf l')) ∧ (b = false → UpI n (gf l') i0)) := by
      intro hd b hb
      have hu := dn_done HD.out hd
      refine ⟨fun e => ?_, fun e => ?_⟩
      · rw [e] at hb
        have : i0 < i := by have := of_decide_eq_true hb.symm; omega
        exact up_done hu (.inr (HG.out this))
      · rw [e] at hb
        have : i = i0 := by have := of_decide_eq_false hb.symm; omega
        rw [← this]; exact hu
    obtain ⟨b, hbb⟩ : ∃ b, b = decide (i0 < i) := ⟨_, rfl⟩
    have HB : Hid (b = decide (i0 < i)) := hbb
    by_cases hj1 : 2 * i + 1 < n
    · obtain ⟨j1, hj1e⟩ : ∃ j, 2 * i + 1 = j := ⟨_, rfl⟩
      have e1 : 2 * (i : Int) + 1 = (j1 : Int) := by omega
      have hj1n : (j1 : Int) < (n : Int) := by omega
      have hj10 : (0 : Int) ≤ (j1 : Int) := by omega
      obtain ⟨j2, hj2e⟩ : ∃ j, j1 + 1 = j := ⟨_, rfl⟩
      have e2 : (j1 : Int) + 1 = (j2 : Int) := by omega
      have hcell := cellB hb.blk 0 (.slice a N cap) rfl
      -- the lesser child
      have HC : Hid (∀ c, (c = j1 ∧ (n ≤ j2 ∨ j2 < n ∧ lessB (gf l' j2) (gf l' j1) = false)) ∨ (c = j2 ∧ j2 < n ∧ lessB (gf l' j2) (gf l' j1) = true) → c < n ∧ 0 < c ∧ par c = i ∧ ∀ d, 0 < d → d < n → par d = i → ¬ lessB (gf l' d) (gf l' c) = true) := by
        intro c hc
        rcases hc with ⟨rfl, hc⟩ | ⟨rfl, hc1, hc2⟩
        · refine ⟨by omega, by omega, (par_iff (by omega)).2 (by omega), fun d d0 dn dp => ?_⟩
          rw [par_iff d0] at dp
          rcases dp with dp | dp
          · have : d = c := by omega
            rw [this]; exact less_irrefl _
          · have : d = j2 := by omega
            subst this
            rcases hc with hc | ⟨_, hc⟩
            · omega
            · rw [hc]; decide
        · refine ⟨hc1, by omega, (par_iff (by omega)).2 (by omega), fun d d0 dn dp => ?_⟩
          rw [par_iff d0] at dp
          rcases dp with dp | dp
          · have : d = j1 := by omega
            rw [this]; exact less_asymm hc2
          · have : d = c := by omega
            rw [this]; exact less_irrefl _
      have HJ1 : Hid (2 * i + 1 = j1) := hj1e
      have HJ2 : Hid (j1 + 1 = j2) := hj2e
      clear hj1e hj2e hbb
      -- what follows, of the lesser child
      have Lss : ∀ W, BellAt base W B (.slice a N cap) l' now → ∀ x y, x < N → y < N → Calls Try.prog 72 #[.slice a N cap, .int .i64 x, .int .i64 y] W fun e W' => e = .returned (.bool (lessB (gf l' x) (gf l' y))) ∧ Below W.heap.size W W' := fun W hW x y hx hy => qLess_n hW hNl x y hx hy
      have m1 := meth_of mLess B a N cap wr hcell
      have hj1N : j1 < N := by omega
      have hiN : i < N := by omega
      by_cases h2 : j2 < n
      · have hj2n : (j2 : Int) < (n : Int) := by omega
        have hL1 := Lss wr hb j2 j1 (by omega) hj1N
        obtain ⟨R1, hR1⟩ : ∃ R, lessB (gf l' j2) (gf l' j1) = R := ⟨_, rfl⟩
        rw [hR1] at hL1
        have HR1 : Hid (lessB (gf l' j2) (gf l' j1) = R1) := hR1
        clear hR1
        go_wp2_with fail
        refine hL1.mono ?_
        rintro e W ⟨rfl, hb2⟩
        have hbW := hb.next hb2
        have hMW := hM.trans (Moved.of_below hb2 _ _)
        have hcs : ∃ c, (R1 = true ∧ c = j2 ∨ R1 = false ∧ c = j1) ∧ c < n ∧ 0 < c ∧ par c = i ∧ ∀ d, 0 < d → d < n → par d = i → ¬ lessB (gf l' d) (gf l' c) = true := by
          cases R1 with
          | true => exact ⟨j2, .inl ⟨rfl, rfl⟩, HC.out j2 (.inr ⟨rfl, h2, HR1.out⟩)⟩
          | false => exact ⟨j1, .inr ⟨rfl, rfl⟩, HC.out j1 (.inl ⟨rfl, .inr ⟨h2, HR1.out⟩⟩)⟩
        obtain ⟨c, hcc, hC⟩ := hcs
        clear hL1 m1 hcell hb hM HC HR1
        rcases hcc with ⟨rfl, rfl⟩ | ⟨rfl, rfl⟩
        all_goals
          have hcN : c < N := by have := hC.1; omega
          have hL2 := Lss W hbW c i hcN hiN
          have cW := cellB hbW.blk 0 (.slice a N cap) rfl
          have mW := meth_of mLess B a N cap W cW
          obtain ⟨R2, hR2⟩ : ∃ R, lessB (gf l' c) (gf l' i) = R := ⟨_, rfl⟩
          rw [hR2] at hL2
          have HR2 : Hid (lessB (gf l' c) (gf l' i) = R2) := hR2
          have HCC : Hid (c < n ∧ 0 < c ∧ par c = i ∧ ∀ d, 0 < d → d < n → par d = i → ¬ lessB (gf l' d) (gf l' c) = true) := hC
          clear hR2 hC Lss
          go_wp2_with fail
          refine hL2.mono ?_
          rintro e W3 ⟨rfl, hb3⟩
          have hbn := hbW.next hb3
          have hM3 := hMW.trans (Moved.of_below hb3 _ _)
          have c3 := cellB hbn.blk 0 (.slice a N cap) rfl
          have m3 := meth_of mSwap B a N cap W3 c3
          have hSw := qSwap_n hbn hNl i c hiN hcN
          clear hL2 cW mW hbW hMW
          cases R2 with
          | false =>
            have hfin := HE.out (fun d d0 dn dp h => by
              have h1 := HCC.out.2.2.2 d d0 dn dp
              have h2 : ¬ lessB (gf l' c) (gf l' i) = true := by rw [HR2.out]; decide
              exact less_trans' h1 h2 h) b HB.out
            clear hSw m3 HE HD HG HR2 HCC
            go_wp2
            go_ret
            exact ⟨b, l', ret_bool HB.out.symm, hbn, HP.out, hfin.1, hfin.2, HF.out, hM3⟩
          | true =>
            have hil : i < l'.length := by omega
            have hcl : c < l'.length := by omega
            have hstep := dn_step HD.out HCC.out.2.2.1 HCC.out.2.1 HCC.out.1 HR2.out HCC.out.2.2.2
            have HD2 : Hid (DnI n (gf (swp l' i c)) c) := by show DnI n _ c; rw [gf_swp hil hcl]; exact hstep.1
            have HG2 : Hid (i0 < c → ¬ lessB (gf (swp l' i c) c) (gf (swp l' i c) (par c)) = true) := by
              intro _
              rw [gf_swp hil hcl]; exact hstep.2
            have HP2 : Hid ((swp l' i c).Perm l) := (swp_perm hil hcl).trans HP.out
            have HF2 : Hid (∀ k, n ≤ k → gf (swp l' i c) k = gf l k) := by
              intro k hk
              have hc1 := HCC.out.1
              rw [gf_swp hil hcl, sw_o _ (by omega) (by omega)]
              exact HF.out k hk
            have hic : i < c := by have := par_lt HCC.out.2.1; have := HCC.out.2.2.1; omega
            have hcn := HCC.out.1
            clear hstep HE HD HG HP HF HR2 HCC
            go_wp2_with (go_at_call 73; refine hSw.mono ?_; rintro e W4 ⟨rfl, hb4, hM4⟩)
            go_roundg (N + 1 - c)
            case measure => omega
            case rel => exact ⟨c, _, rfl, by omega, by omega, .inl hcn, hb4, HP2, HD2, HG2, HF2, hM3.trans hM4⟩
      · have hj2n : (n : Int) ≤ (j2 : Int) := by omega
        obtain ⟨c, hcc, hC⟩ : ∃ c, c = j1 ∧ c < n ∧ 0 < c ∧ par c = i ∧ ∀ d, 0 < d → d < n → par d = i → ¬ lessB (gf l' d) (gf l' c) = true := ⟨j1, rfl, HC.out j1 (.inl ⟨rfl, .inl (by omega)⟩)⟩
        obtain ⟨W, hW⟩ : ∃ W, wr = W := ⟨_, rfl⟩
        subst hW
        have hbW := hb
        have hMW := hM
        subst hcc
        clear hb hM HC m1 hcell
        have hcN : c < N := by have := hC.1; omega
        have hL2 := Lss wr hbW c i hcN hiN
        have cW := cellB hbW.blk 0 (.slice a N cap) rfl
        have mW := meth_of mLess B a N cap wr cW
        obtain ⟨R2, hR2⟩ : ∃ R, lessB (gf l' c) (gf l' i) = R := ⟨_, rfl⟩
        rw [hR2] at hL2
        have HR2 : Hid (lessB (gf l' c) (gf l' i) = R2) := hR2
        have HCC : Hid (c < n ∧ 0 < c ∧ par c = i ∧ ∀ d, 0 < d → d < n → par d = i → ¬ lessB (gf l' d) (gf l' c) = true) := hC
        clear hR2 hC Lss
        go_wp2_with fail
        refine hL2.mono ?_
        rintro e W3 ⟨rfl, hb3⟩
        have hbn := hbW.next hb3
        have hM3 := hMW.trans (Moved.of_below hb3 _ _)
        have c3 := cellB hbn.blk 0 (.slice a N cap) rfl
        have m3 := meth_of mSwap B a N cap W3 c3
        have hSw := qSwap_n hbn hNl i c hiN hcN
        clear hL2 cW mW hbW hMW
        cases R2 with
        | false =>
          have hfin := HE.out (fun d d0 dn dp h => by
            have h1 := HCC.out.2.2.2 d d0 dn dp
            have h2 : ¬ lessB (gf l' c) (gf l' i) = true := by rw [HR2.out]; decide
            exact less_trans' h1 h2 h) b HB.out
          clear hSw m3 HE HD HG HR2 HCC
          go_wp2
          go_ret
          exact ⟨b, l', ret_bool HB.out.symm, hbn, HP.out, hfin.1, hfin.2, HF.out, hM3⟩
        | true =>
          have hil : i < l'.length := by omega
          have hcl : c < l'.length := by omega
          have hstep := dn_step HD.out HCC.out.2.2.1 HCC.out.2.1 HCC.out.1 HR2.out HCC.out.2.2.2
          have HD2 : Hid (DnI n (gf (swp l' i c)) c) := by show DnI n _ c; rw [gf_swp hil hcl]; exact hstep.1
          have HG2 : Hid (i0 < c → ¬ lessB (gf (swp l' i c) c) (gf (swp l' i c) (par c)) = true) := by
            intro _
            rw [gf_swp hil hcl]; exact hstep.2
          have HP2 : Hid ((swp l' i c).Perm l) := (swp_perm hil hcl).trans HP.out
          have HF2 : Hid (∀ k, n ≤ k → gf (swp l' i c) k = gf l k) := by
            intro k hk
            have hc1 := HCC.out.1
            rw [gf_swp hil hcl, sw_o _ (by omega) (by omega)]
            exact HF.out k hk
          have hic : i < c := by have := par_lt HCC.out.2.1; have := HCC.out.2.2.1; omega
          have hcn := HCC.out.1
          clear hstep HE HD HG HP HF HR2 HCC
          go_wp2_with (go_at_call 73; refine hSw.mono ?_; rintro e W4 ⟨rfl, hb4, hM4⟩)
          go_roundg (N + 1 - c)
          case measure => omega
          case rel => exact ⟨c, _, rfl, by omega, by omega, .inl hcn, hb4, HP2, HD2, HG2, HF2, hM3.trans hM4⟩
    · have hj2 : (n : Int) ≤ 2 * (i : Int) + 1 := by omega
      have hfin := HE.out (fun d d0 dn dp => by rw [par_iff d0] at dp; omega) b hbb
      clear hbb HE HD HG hj1
      go_wp2
      go_ret
      exact ⟨b, l', ret_bool HB.out.symm, hb, HP.out, hfin.1, hfin.2, HF.out, hM⟩
end Go.Proofs.Ytemmnojcickcpaa
