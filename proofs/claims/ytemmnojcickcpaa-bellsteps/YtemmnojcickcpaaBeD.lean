/- container/heap's up, walked over the bell's queue. -/
import Derived.Test.YtemmnojcickcpaaBeC
namespace Go.Proofs.Ytemmnojcickcpaa
open Go.RowKit
attribute [local go_sem ↓] Go.wp_at_zero Go.wp_at_succ

theorem qLess_n {base : Nat} {w : World} {B N : Nat} {a : Option Addr} {cap : Nat} {l : List Tm} {now : Int} (h : BellAt base w B (.slice a N cap) l now) (hN : l.length = N) (i j : Nat) (hi : i < N) (hj : j < N) :
    Calls Try.prog 72 #[.slice a N cap, .int .i64 i, .int .i64 j] w fun e W' => e = .returned (.bool (lessB (gf l i) (gf l j))) ∧ Below w.heap.size w W' := by
  subst hN
  have e1 : l[i]? = some (gf l i) := by rw [List.getElem?_eq_getElem hi, gf_at (List.getElem?_eq_getElem hi)]
  have e2 : l[j]? = some (gf l j) := by rw [List.getElem?_eq_getElem hj, gf_at (List.getElem?_eq_getElem hj)]
  exact qLess_any h i j _ _ e1 e2
theorem qSwap_n {base : Nat} {w : World} {B N : Nat} {a : Option Addr} {cap : Nat} {l : List Tm} {now : Int} (h : BellAt base w B (.slice a N cap) l now) (hN : l.length = N) (i j : Nat) (hi : i < N) (hj : j < N) :
    Calls Try.prog 73 #[.slice a N cap, .int .i64 i, .int .i64 j] w fun e W' => e = .returned (.tuple #[]) ∧ BellAt base W' B (.slice a N cap) (swp l i j) now ∧ Moved B (.slice a N cap) (.slice a N cap) w W' := by
  subst hN
  exact qSwap_any h i j hi hj
set_option maxRecDepth 20000 in
set_option maxHeartbeats 4000000 in
theorem up_any {base : Nat} {w : World} {B N : Nat} {a : Option Addr} {cap : Nat} {l : List Tm} {now : Int} (h : BellAt base w B (.slice a N cap) l now) (hN : l.length = N) (hN4 : N ≤ 1000) (n j : Nat) (hn : n ≤ N) (hj : j < n) (hU : UpI n (gf l) j) :
    Calls Try.prog 51 #[.iface 94 (.pointer (some ⟨B, 0, none⟩)), .int .i64 j] w fun e W' => e = .returned (.tuple #[]) ∧ ∃ l', BellAt base W' B (.slice a N cap) l' now ∧ l'.Perm l ∧ Hp n (gf l') ∧ (∀ k, n ≤ k → gf l' k = gf l k) ∧ Moved B (.slice a N cap) (.slice a N cap) w W' := by
  go_enter Try.func51, Try.ntmps51
  go_wp2_with fail
  go_loopg [1] j (fun gk p wr => ∃ (l' : List Tm), p = .int .i64 (gk : Nat) ∧ gk < n ∧ BellAt base wr B (.slice a N cap) l' now ∧ Hid (l'.Perm l) ∧ Hid (UpI n (gf l') gk) ∧ Hid (∀ k, n ≤ k → gf l' k = gf l k) ∧ Moved B (.slice a N cap) (.slice a N cap) w wr)
  case atStart => exact ⟨l, rfl, hj, h, List.Perm.refl _, hU, fun _ _ => rfl, Moved.refl _ _ _⟩
  case round =>
    obtain ⟨l', rfl, hgn, hb, HP, HU, HF, hM⟩ := hrel
    have hNl : l'.length = N := HP.out.length_eq.trans hN
    by_cases h0 : gk = 0
    · subst h0
      go_wp2
      first
        | exact bodyPost_end (v := .tuple #[]) (by simp [results, Try.f51]) rfl ⟨rfl, l', hb, HP.out, up_done HU.out (.inl rfl), HF.out, hM⟩
        | exact bodyPost_ret (v := .tuple #[]) (by simp [results, Try.f51]) rfl ⟨rfl, l', hb, HP.out, up_done HU.out (.inl rfl), HF.out, hM⟩
    · have c0 := cellB hb.blk 0 (.slice a N cap) rfl
      have m1 := meth_of mLess B a N cap wr c0
      have hp := par_lt (show 0 < gk by omega)
      obtain ⟨p, hpe⟩ : ∃ p, par gk = p := ⟨_, rfl⟩
      have hpk : ((gk : Int) - 1) / 2 = (p : Int) := by rw [← hpe]; unfold par; omega
      have HPE : Hid (par gk = p) := hpe
      rw [hpe] at hp
      have hq : ((p : Int) == (gk : Int)) = false := by simp; omega
      have hLs := qLess_n hb hNl gk p (by omega) (by omega)
      have g0 : (1 : Int) ≤ (gk : Int) := by omega
      have g1 : (gk : Int) ≤ 1000 := by omega
      clear hpe
      obtain ⟨R, hR⟩ : ∃ R, lessB (gf l' gk) (gf l' p) = R := ⟨_, rfl⟩
      rw [hR] at hLs
      have HR : Hid (lessB (gf l' gk) (gf l' p) = R) := hR
      clear hR
      go_wp2_with fail
      refine hLs.mono ?_
      rintro e w2 ⟨rfl, hb2⟩
      have hbn := hb.next hb2
      have c2 := cellB hbn.blk 0 (.slice a N cap) rfl
      have m2 := meth_of mSwap B a N cap w2 c2
      have hM2 := hM.trans (Moved.of_below hb2 _ _)
      have hSw := qSwap_n hbn hNl p gk (by omega) (by omega)
      clear hLs m1 c0 hb
      cases R with
      | false =>
        have HD : Hid (Hp n (gf l')) := up_done HU.out (.inr (by rw [HPE.out, HR.out]; decide))
        clear hSw m2 HU HR
        go_wp2
        first
          | exact bodyPost_end (v := .tuple #[]) (by simp [results, Try.f51]) rfl ⟨rfl, l', hbn, HP.out, HD.out, HF.out, hM2⟩
          | exact bodyPost_ret (v := .tuple #[]) (by simp [results, Try.f51]) rfl ⟨rfl, l', hbn, HP.out, HD.out, HF.out, hM2⟩
      | true =>
        have hil : p < l'.length := by omega
        have hjl : gk < l'.length := by omega
        have HP2 : Hid ((swp l' p gk).Perm l) := (swp_perm hil hjl).trans HP.out
        have HU2 : Hid (UpI n (gf (swp l' p gk)) p) := by
          show UpI n _ p
          rw [gf_swp hil hjl]
          have := up_step HU.out (by omega) hgn (by rw [HPE.out]; exact HR.out)
          rw [HPE.out] at this
          exact this
        have HF2 : Hid (∀ k, n ≤ k → gf (swp l' p gk) k = gf l k) := by
          intro k hk
          rw [gf_swp hil hjl, sw_o _ (by omega) (by omega)]
          exact HF.out k hk
        clear HU HR HP HF
        go_wp2_with (go_at_call 73; refine hSw.mono ?_; rintro e w3 ⟨rfl, hb3, hM3⟩)
        go_roundg p
        case measure => omega
        case rel => exact ⟨_, rfl, by omega, hb3, HP2, HU2, HF2, hM2.trans hM3⟩
end Go.Proofs.Ytemmnojcickcpaa
