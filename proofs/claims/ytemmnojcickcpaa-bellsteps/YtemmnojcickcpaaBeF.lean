/- container/heap's Push, Pop, Remove and Fix, walked over the bell's queue. -/
import Derived.Test.YtemmnojcickcpaaBeE
namespace Go.Proofs.Ytemmnojcickcpaa
open Go.RowKit
attribute [local go_sem ↓] Go.wp_at_zero Go.wp_at_succ

theorem gf_left {l r : List Tm} {k : Nat} (h : k < l.length) : gf (l ++ r) k = gf l k := by simp [gf, List.getElem?_append_left h]
theorem last_split {l : List Tm} {m : Nat} (h : l.length = m + 1) : ∃ r, l = r ++ [gf l m] ∧ r.length = m ∧ ∀ k, k < m → gf r k = gf l k := by
  have hm : m < l.length := by omega
  refine ⟨l.take m, ?_, by rw [List.length_take]; omega, fun k hk => ?_⟩
  · rw [gf_at (List.getElem?_eq_getElem hm), ← List.take_succ_eq_append_getElem hm, List.take_of_length_le (by omega)]
  · simp [gf, hk]
theorem qLen_n (a : Option Addr) (m c : Nat) (w : World) : Calls Try.prog 71 #[.slice a (m + 1) c] w fun e W' => e = .returned (.int .i64 ((m : Int) + 1)) ∧ W' = w := qLen_any a (m + 1) c w
set_option maxRecDepth 20000 in
set_option maxHeartbeats 4000000 in
theorem hPush_any {base : Nat} {w : World} {B : Nat} {v : Value} {l : List Tm} {now : Int} (h : BellAt base w B v l now) (hl : l.length ≤ 100) (hH : Hp l.length (gf l)) (a0 a1 a2 : Int) :
    Calls Try.prog 46 #[.iface 94 (.pointer (some ⟨B, 0, none⟩)), .iface 92 (.agg #[.int .i64 a0, .int .i64 a1, .int .i64 a2])] w fun e W' => e = .returned (.tuple #[]) ∧ ∃ v' l', BellAt base W' B v' l' now ∧ l'.Perm (l ++ [(a0, a1, a2)]) ∧ Hp l'.length (gf l') ∧ Moved B v v' w W' := by
  have mp := meth_push ⟨B, 0, none⟩
  have hP := qPush_any h (by omega) a0 a1 a2
  obtain ⟨m, hm⟩ : ∃ m, l.length = m := ⟨_, rfl⟩
  have hlen : (l ++ [(a0, a1, a2)]).length = m + 1 := by simp [hm]
  have HL : Hid ((l ++ [(a0, a1, a2)]).length = m + 1) := hlen
  have HU : Hid (UpI (m + 1) (gf (l ++ [(a0, a1, a2)])) m) := push_up (hm ▸ hH) (fun k hk => gf_left (by omega))
  have m1 : (m : Int) ≤ 100 := by omega
  clear hlen hm
  go_enter Try.func46, Try.ntmps46
  go_wp2_with fail
  refine hP.mono ?_
  rintro e w2 ⟨rfl, v2, h2, hm2⟩
  obtain ⟨a, cap, rfl⟩ := h2.slice
  rw [HL.out] at h2 hm2
  have c2 := cellB h2.blk 0 (.slice a (m + 1) cap) rfl
  have ml := meth_of mLen B a (m + 1) cap w2 c2
  have hU := up_any h2 HL.out (by omega) (m + 1) m (Nat.le_refl _) (by omega) HU.out
  clear hP mp
  go_wp2_with (first
    | (go_at_call 71; refine (qLen_n _ _ _ _).mono ?_; rintro e w3 ⟨rfl, hz⟩; subst hz)
    | (go_at_call 51; refine hU.mono ?_; rintro e w4 ⟨rfl, l', h4, hp4, hh4, _, hm4⟩))
  have hl4 : l'.length = m + 1 := hp4.length_eq.trans HL.out
  first
    | exact bodyPost_end (v := .tuple #[]) (by simp [results, Try.f46]) rfl ⟨rfl, _, l', h4, hp4, by rw [hl4]; exact hh4, hm2.trans hm4⟩
    | exact bodyPost_ret (v := .tuple #[]) (by simp [results, Try.f46]) rfl ⟨rfl, _, l', h4, hp4, by rw [hl4]; exact hh4, hm2.trans hm4⟩
set_option maxRecDepth 20000 in
set_option maxHeartbeats 4000000 in
theorem hPop_any {base : Nat} {w : World} {B : Nat} {v : Value} {l : List Tm} {now : Int} (h : BellAt base w B v l now) (hl0 : 0 < l.length) (hl : l.length ≤ 100) (hH : Hp l.length (gf l)) :
    Calls Try.prog 52 #[.iface 94 (.pointer (some ⟨B, 0, none⟩))] w fun e W' => e = .returned (.iface 92 (.agg #[.int .i64 (gf l 0).1, .int .i64 (gf l 0).2.1, .int .i64 (gf l 0).2.2])) ∧ ∃ v' l', BellAt base W' B v' l' now ∧ l.Perm (l' ++ [gf l 0]) ∧ Hp l'.length (gf l') ∧ Moved B v v' w W' := by
  obtain ⟨m, hm⟩ : ∃ m, l.length = m + 1 := ⟨l.length - 1, by omega⟩
  obtain ⟨a, cap, rfl⟩ := h.slice
  have HL : Hid (l.length = m + 1) := hm
  rw [hm] at h
  have c0 := cellB h.blk 0 (.slice a (m + 1) cap) rfl
  have ml := meth_of mLen B a (m + 1) cap w c0
  have ms := meth_of mSwap B a (m + 1) cap w c0
  have mp := meth_pop ⟨B, 0, none⟩
  have hS : Calls Try.prog 73 #[.slice a (m + 1) cap, .int .i64 0, .int .i64 m] w _ := qSwap_n h hm 0 m (by omega) (by omega)
  have HD : Hid (DnI m (gf (swp l 0 m)) 0) := by
    show DnI m _ 0
    rw [gf_swp (by omega) (by omega)]
    by_cases h0 : 0 < m
    · exact swap_down (hm ▸ hH) h0
    · exact ⟨fun k _ hk => absurd hk (by omega), fun h => absurd h (by omega)⟩
  have HW : Hid (gf (swp l 0 m) m = gf l 0) := by show _ = _; rw [gf_swp (by omega) (by omega), sw_j]
  have HP : Hid ((swp l 0 m).Perm l) := swp_perm (by omega) (by omega)
  have HLS : Hid ((swp l 0 m).length = m + 1) := by show _ = _; rw [swp_len, hm]
  have m1 : (m : Int) ≤ 100 := by omega
  obtain ⟨z, hz⟩ : ∃ z, gf l 0 = z := ⟨_, rfl⟩
  rw [hz] at HW ⊢
  clear hz
  obtain ⟨z0, z1, z2⟩ := z
  rw [hm]
  clear hm
  go_enter Try.func52, Try.ntmps52
  go_wp2_with (first
    | (go_at_call 71; refine (qLen_n _ _ _ _).mono ?_; rintro e w1 ⟨rfl, hz⟩; subst hz)
    | (go_at_call 73; refine hS.mono ?_; rintro e w2 ⟨rfl, h2, hm2⟩; have hDn := down_any h2 HLS.out (by omega) m 0 (by omega) (.inr rfl) HD.out)
    | (go_at_call 53; refine hDn.mono ?_; rintro e w3 ⟨b, l3, rfl, h3, hp3, hb1, hb2, hf3, hm3⟩; have hh3 : Hp m (gf l3) := (by cases b with | true => exact hb1 rfl | false => exact up_done (hb2 rfl) (.inl rfl)); have hl3 : l3.length = m + 1 := hp3.length_eq.trans HLS.out; obtain ⟨r, hr1, hr2, hr3⟩ := last_split hl3; have e3 : gf l3 m = (z0, z1, z2) := (hf3 m (Nat.le_refl _)).trans HW.out; rw [e3] at hr1; clear hDn))
  subst hr1
  have hQ := qPop_any z0 z1 z2 h3 (by omega)
  refine hQ.mono ?_
  rintro e w4 ⟨rfl, v4, h4, hm4⟩
  have HH : Hid (Hp r.length (gf r)) := by show Hp r.length _; rw [hr2]; exact hp_congr hh3 hr3
  have HPP : Hid (l.Perm (r ++ [(z0, z1, z2)])) := HP.out.symm.trans hp3.symm
  have hM := (hm2.trans hm3).trans hm4
  clear hQ hb1 hb2 hf3 hh3 hl3 hr2 hr3 e3 h3 hp3 HD HW HP HLS hS h2 hm2 hm3 h c0 ml ms mp
  go_wp2
  go_ret
  exact ⟨rfl, v4, r, h4, HPP.out, HH.out, hM⟩
theorem rem_split {l l3 : List Tm} {m i : Nat} (hm : l.length = m + 1) (hp : l3.Perm l) (hw : gf l3 m = gf l i) (hh : Hp m (gf l3)) : ∃ r, l3 = r ++ [gf l i] ∧ l.Perm (r ++ [gf l i]) ∧ Hp r.length (gf r) ∧ r.length = m := by
  have hl3 : l3.length = m + 1 := hp.length_eq.trans hm
  obtain ⟨r, h1, h2, h3⟩ := last_split hl3
  rw [hw] at h1
  exact ⟨r, h1, by rw [← h1]; exact hp.symm, by rw [h2]; exact hp_congr hh h3, h2⟩
set_option maxRecDepth 20000 in
set_option maxHeartbeats 4000000 in
theorem hRemove_any {base : Nat} {w : World} {B : Nat} {v : Value} {l : List Tm} {now : Int} (h : BellAt base w B v l now) (i : Nat) (hi : i < l.length) (hl : l.length ≤ 100) (hH : Hp l.length (gf l)) :
    Calls Try.prog 50 #[.iface 94 (.pointer (some ⟨B, 0, none⟩)), .int .i64 i] w fun e W' => ∃ u, e = .returned u ∧ ∃ v' l', BellAt base W' B v' l' now ∧ l.Perm (l' ++ [gf l i]) ∧ Hp l'.length (gf l') ∧ Moved B v v' w W' := by
  obtain ⟨m, hm⟩ : ∃ m, l.length = m + 1 := ⟨l.length - 1, by omega⟩
  obtain ⟨a, cap, rfl⟩ := h.slice
  have HL : Hid (l.length = m + 1) := hm
  rw [hm] at h hH hi
  have c0 := cellB h.blk 0 (.slice a (m + 1) cap) rfl
  have ml := meth_of mLen B a (m + 1) cap w c0
  have ms := meth_of mSwap B a (m + 1) cap w c0
  have mp := meth_pop ⟨B, 0, none⟩
  have m1 : (m : Int) ≤ 100 := by omega
  have i0 : (0 : Int) ≤ (i : Int) := by omega
  obtain ⟨z, hz⟩ : ∃ z, gf l i = z := ⟨_, rfl⟩
  rw [hm]
  by_cases him : i = m
  · subst him
    obtain ⟨r, hr1, hr2, hr3, hr4⟩ := rem_split hm (List.Perm.refl l) rfl (hp_mono hH (by omega))
    rw [hz] at hr1 hr2 ⊢
    clear hz
    obtain ⟨z0, z1, z2⟩ := z
    have h' := h
    rw [hr1] at h'
    have hQ := qPop_any z0 z1 z2 h' (by omega)
    have HPP : Hid (l.Perm (r ++ [(z0, z1, z2)])) := hr2
    have HH : Hid (Hp r.length (gf r)) := hr3
    clear hm hr1 hr2 hr3 hr4 h' hi ms
    go_enter Try.func50, Try.ntmps50
    go_wp2_with (first
      | (go_at_call 71; refine (qLen_n _ _ _ _).mono ?_; rintro e w1 ⟨rfl, hz⟩; subst hz)
      | (go_at_call 74; refine hQ.mono ?_; rintro e w4 ⟨rfl, v4, h4, hm4⟩))
    go_ret
    exact ⟨_, rfl, v4, r, h4, HPP.out, HH.out, hm4⟩
  · have him2 : i < m := by omega
    have hq : ((m : Int) == (i : Int)) = false := by simp; omega
    have hS := qSwap_n h hm i m (by omega) (by omega)
    have HD : Hid (DnI m (gf (swp l i m)) i) := by show DnI m _ i; rw [gf_swp (by omega) (by omega)]; exact swap_down hH him2
    have HW : Hid (gf (swp l i m) m = gf l i) := by show _ = _; rw [gf_swp (by omega) (by omega), sw_j]
    have HP : Hid ((swp l i m).Perm l) := swp_perm (by omega) (by omega)
    have HLS : Hid ((swp l i m).length = m + 1) := by show _ = _; rw [swp_len, hm]
    rw [hz] at HW ⊢
    have HZ : Hid (gf l i = z) := hz
    clear hz
    obtain ⟨z0, z1, z2⟩ := z
    clear him hm
    go_enter Try.func50, Try.ntmps50
    go_wp2_with (first
      | (go_at_call 71; refine (qLen_n _ _ _ _).mono ?_; rintro e w1 ⟨rfl, hz⟩; subst hz)
      | (go_at_call 73; refine hS.mono ?_; rintro e w2 ⟨rfl, h2, hm2⟩; have hDn := down_any h2 HLS.out (by omega) m i (by omega) (.inl him2) HD.out))
    refine hDn.mono ?_
    rintro e w3 ⟨b, l3, rfl, h3, hp3, hb1, hb2, hf3, hm3⟩
    have hp3' := hp3.trans HP.out
    have hl3 : l3.length = m + 1 := hp3.length_eq.trans HLS.out
    have hw3 : gf l3 m = gf l i := ((hf3 m (Nat.le_refl _)).trans HW.out).trans HZ.out.symm
    have hM3 := hm2.trans hm3
    clear hDn hS h2 hm2 hm3 hp3 hf3 HD HW HLS ms ml c0 h
    cases b with
    | true =>
      obtain ⟨r, hr1, hr2, hr3, hr4⟩ := rem_split HL.out hp3' hw3 (hb1 rfl)
      rw [HZ.out] at hr1 hr2
      subst hr1
      have hQ := qPop_any z0 z1 z2 h3 (by omega)
      have HPP : Hid (l.Perm (r ++ [(z0, z1, z2)])) := hr2
      have HH : Hid (Hp r.length (gf r)) := hr3
      clear hr2 hr3 hr4 hb1 hb2 hl3 hp3' hw3 h3
      go_wp2_with (go_at_call 74; refine hQ.mono ?_; rintro e w4 ⟨rfl, v4, h4, hm4⟩)
      go_ret
      exact ⟨_, rfl, v4, r, h4, HPP.out, HH.out, hM3.trans hm4⟩
    | false =>
      have hUp := up_any h3 hl3 (by omega) m i (by omega) him2 (hb2 rfl)
      clear hb1 hb2
      go_wp2_with (go_at_call 51; refine hUp.mono ?_; rintro e w5 ⟨rfl, l5, h5, hp5, hh5, hf5, hm5⟩; obtain ⟨r, hr1, hr2, hr3, hr4⟩ := rem_split HL.out (hp5.trans hp3') ((hf5 m (Nat.le_refl _)).trans hw3) hh5; rw [HZ.out] at hr1 hr2)
      subst hr1
      have hQ := qPop_any z0 z1 z2 h5 (by omega)
      have HPP : Hid (l.Perm (r ++ [(z0, z1, z2)])) := hr2
      have HH : Hid (Hp r.length (gf r)) := hr3
      refine hQ.mono ?_
      rintro e w4 ⟨rfl, v4, h4, hm4⟩
      clear hQ hr2 hr3 hr4 hp5 hh5 hf5 h5 hUp hl3 hp3' hw3 h3
      go_wp2
      go_ret
      exact ⟨_, rfl, v4, r, h4, HPP.out, HH.out, (hM3.trans hm5).trans hm4⟩
set_option maxRecDepth 20000 in
set_option maxHeartbeats 4000000 in
theorem hFix_any {base : Nat} {w : World} {B : Nat} {v : Value} {l : List Tm} {now : Int} (h : BellAt base w B v l now) (i : Nat) (hi : i < l.length) (hl : l.length ≤ 100) (hD : DnI l.length (gf l) i) :
    Calls Try.prog 49 #[.iface 94 (.pointer (some ⟨B, 0, none⟩)), .int .i64 i] w fun e W' => e = .returned (.tuple #[]) ∧ ∃ l', BellAt base W' B v l' now ∧ l'.Perm l ∧ Hp l'.length (gf l') ∧ Moved B v v w W' := by
  obtain ⟨a, cap, rfl⟩ := h.slice
  have c0 := cellB h.blk 0 (.slice a l.length cap) rfl
  have ml := meth_of mLen B a l.length cap w c0
  have hDn := down_any h rfl (by omega) l.length i (Nat.le_refl _) (.inl hi) hD
  have hLn := qLen_any a l.length cap w
  go_enter Try.func49, Try.ntmps49
  go_wp2_with (go_at_call 71; refine hLn.mono ?_; rintro e w1 ⟨rfl, hz⟩; subst hz)
  refine hDn.mono ?_
  rintro e w3 ⟨b, l3, rfl, h3, hp3, hb1, hb2, hf3, hm3⟩
  have hl3 : l3.length = l.length := hp3.length_eq
  clear hDn hLn
  cases b with
  | true =>
    have HH : Hid (Hp l3.length (gf l3)) := by show Hp l3.length _; rw [hl3]; exact hb1 rfl
    clear hb1 hb2 hf3 hl3
    go_wp2
    first
      | exact bodyPost_end (v := .tuple #[]) (by simp [results, Try.f49]) rfl ⟨rfl, l3, h3, hp3, HH.out, hm3⟩
      | exact bodyPost_ret (v := .tuple #[]) (by simp [results, Try.f49]) rfl ⟨rfl, l3, h3, hp3, HH.out, hm3⟩
  | false =>
    have hUp := up_any h3 hl3 (by omega) l.length i (Nat.le_refl _) hi (hb2 rfl)
    have HL3 : Hid (l3.length = l.length) := hl3
    clear hb1 hb2 hf3 hl3
    go_wp2_with (go_at_call 51; refine hUp.mono ?_; rintro e w5 ⟨rfl, l5, h5, hp5, hh5, hf5, hm5⟩)
    have hl5 : l5.length = l.length := hp5.length_eq.trans HL3.out
    first
      | exact bodyPost_end (v := .tuple #[]) (by simp [results, Try.f49]) rfl ⟨rfl, l5, h5, hp5.trans hp3, by rw [hl5]; exact hh5, hm3.trans hm5⟩
      | exact bodyPost_ret (v := .tuple #[]) (by simp [results, Try.f49]) rfl ⟨rfl, l5, h5, hp5.trans hp3, by rw [hl5]; exact hh5, hm3.trans hm5⟩
end Go.Proofs.Ytemmnojcickcpaa
