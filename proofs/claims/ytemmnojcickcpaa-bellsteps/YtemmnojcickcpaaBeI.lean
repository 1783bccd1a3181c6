/- The bell's Set, Off and Double, walked. -/
import Derived.Test.YtemmnojcickcpaaBeG
namespace Go.Proofs.Ytemmnojcickcpaa
open Go.RowKit
attribute [local go_sem ↓] Go.wp_at_zero Go.wp_at_succ

theorem wrap_id8 (x : Int) (h0 : -9223372036854775808 ≤ x) (h1 : x ≤ 9223372036854775807) : IntKind.i64.wrap x = x := by
  simp [IntKind.wrap, IntKind.bits, IntKind.signed]; omega
set_option maxRecDepth 20000 in
set_option maxHeartbeats 2000000 in
theorem Set_bad (p : Option Addr) (n s : Int) (w : World) (hb : nameB n = false ∨ nameB n = true ∧ (s < 1 ∨ 1 ≤ s ∧ 4096 < s)) : Calls Try.prog 34 #[.pointer p, .int .i64 n, .int .i64 s] w fun e W' => e = .returned (.int .i64 1) ∧ W' = w := by
  have hN := isName_any n w
  rcases hb with h | ⟨h, h2 | ⟨h2, h3⟩⟩
  all_goals
    rw [h] at hN
    go_enter Try.func34, Try.ntmps34
    go_wp2_with (go_at_call 44; refine hN.mono ?_; rintro e w1 ⟨rfl, hz⟩; subst hz)
    go_ret
    exact ⟨rfl, rfl⟩
set_option maxRecDepth 20000 in
set_option maxHeartbeats 2000000 in
theorem Set_nil (n s : Int) (w : World) (h : nameB n = true) (h1 : 1 ≤ s) (h2 : s ≤ 4096) : Calls Try.prog 34 #[.pointer none, .int .i64 n, .int .i64 s] w fun e W' => e = .returned (.int .i64 7) ∧ W' = w := by
  have hN := isName_any n w
  rw [h] at hN
  go_enter Try.func34, Try.ntmps34
  go_wp2_with (go_at_call 44; refine hN.mono ?_; rintro e w1 ⟨rfl, hz⟩; subst hz)
  go_ret
  exact ⟨rfl, rfl⟩
set_option maxRecDepth 20000 in
set_option maxHeartbeats 2000000 in
theorem Set_ok {base : Nat} {w : World} {B : Nat} {v : Value} {F : Ft} {now : Int} (h : BelSt base w B v F now) (n s : Int) (hn : nameB n = true) (h1 : 1 ≤ s) (h2 : s ≤ 4096) (hw0 : 0 ≤ now) (hw1 : now ≤ 1099511627776) :
    Calls Try.prog 34 #[.pointer (some ⟨B, 0, none⟩), .int .i64 n, .int .i64 s] w fun e W' => e = .returned (.int .i64 0) ∧ ∃ v', BelSt base W' B v' (upd F n (some (now + s, s))) now ∧ Moved B v v' w W' := by
  have hN := isName_any n w
  have hRm := remove_any h n
  have hnn := nameB_true hn
  rw [hn] at hN
  obtain ⟨R, hRe⟩ : ∃ R, (F n).isSome = R := ⟨_, rfl⟩
  rw [hRe] at hRm
  clear hRe hn
  go_enter Try.func34, Try.ntmps34
  go_wp2_with (first
    | (go_at_call 44; refine hN.mono ?_; rintro e w1 ⟨rfl, hz⟩; subst hz)
    | (go_at_call 45; refine hRm.mono ?_; rintro e w2 ⟨rfl, v2, ⟨l2, hb2, hh2, hr2⟩, hm2⟩; have c1 := cellB hb2.blk 1 (.int .i64 now) rfl))
  have hfew := hr2.few
  have hbd := hb2.next (below_drew (Below.refl _ w2))
  obtain ⟨q, hq⟩ : ∃ q, now + s = q := ⟨_, rfl⟩
  have hwr : IntKind.i64.wrap (now + s) = q := by rw [wrap_id8 _ (by omega) (by omega), hq]
  have HQ : Hid (now + s = q) := hq
  have hPu := hPush_any hbd (by omega) hh2 n q s
  clear hN hRm hq
  go_region_held3 (fun w' => w'.cell? ⟨B, 1, none⟩ = some (.int .i64 now)) (go_keep)
    (first | (go_at_call 46; refine hPu.mono ?_; rintro e w3 ⟨rfl, v3, l3, hb3, hp3, hh3, hm3⟩; have c3 := cellB hb3.blk 1 (.int .i64 now) rfl))
  go_wp2
  go_ret
  have hr3 := hr2.push hnn ⟨h1, h2⟩ (upd_at F n none) hp3
  rw [upd_upd] at hr3
  rw [HQ.out]
  exact ⟨rfl, v3, ⟨l3, hb3, hh3, hr3⟩, (hm2.trans (Moved.of_below (below_drew (Below.refl _ w2)) _ _)).trans hm3⟩
set_option maxRecDepth 20000 in
set_option maxHeartbeats 2000000 in
theorem Off_bad (p : Option Addr) (n : Int) (w : World) (h : nameB n = false) : Calls Try.prog 38 #[.pointer p, .int .i64 n] w fun e W' => e = .returned (.tuple #[.bool false, .int .i64 1]) ∧ W' = w := by
  have hN := isName_any n w
  rw [h] at hN
  go_enter Try.func38, Try.ntmps38
  go_wp2_with (go_at_call 44; refine hN.mono ?_; rintro e w1 ⟨rfl, hz⟩; subst hz)
  go_ret2
  exact ⟨rfl, rfl⟩
set_option maxRecDepth 20000 in
set_option maxHeartbeats 2000000 in
theorem Off_nil (n : Int) (w : World) (h : nameB n = true) : Calls Try.prog 38 #[.pointer none, .int .i64 n] w fun e W' => e = .returned (.tuple #[.bool false, .int .i64 0]) ∧ W' = w := by
  have hN := isName_any n w
  have hRm := remove_nil n w
  rw [h] at hN
  go_enter Try.func38, Try.ntmps38
  go_wp2_with (first
    | (go_at_call 44; refine hN.mono ?_; rintro e w1 ⟨rfl, hz⟩; subst hz)
    | (go_at_call 45; refine hRm.mono ?_; rintro e w1 ⟨rfl, hz⟩; subst hz))
  go_ret2
  exact ⟨rfl, rfl⟩
set_option maxRecDepth 20000 in
set_option maxHeartbeats 2000000 in
theorem Off_ok {base : Nat} {w : World} {B : Nat} {v : Value} {F : Ft} {now : Int} (h : BelSt base w B v F now) (n : Int) (hn : nameB n = true) :
    Calls Try.prog 38 #[.pointer (some ⟨B, 0, none⟩), .int .i64 n] w fun e W' => e = .returned (.tuple #[.bool (F n).isSome, .int .i64 0]) ∧ ∃ v', BelSt base W' B v' (upd F n none) now ∧ Moved B v v' w W' := by
  have hN := isName_any n w
  have hRm := remove_any h n
  rw [hn] at hN
  obtain ⟨R, hRe⟩ : ∃ R, (F n).isSome = R := ⟨_, rfl⟩
  rw [hRe] at hRm ⊢
  clear hRe
  go_enter Try.func38, Try.ntmps38
  go_wp2_with (first
    | (go_at_call 44; refine hN.mono ?_; rintro e w1 ⟨rfl, hz⟩; subst hz)
    | (go_at_call 45; refine hRm.mono ?_; rintro e w2 ⟨rfl, v2, hb2, hm2⟩))
  go_ret2
  exact ⟨rfl, v2, hb2, hm2⟩
set_option maxRecDepth 20000 in
set_option maxHeartbeats 2000000 in
theorem Double_bad (p : Option Addr) (n : Int) (w : World) (h : nameB n = false) : Calls Try.prog 40 #[.pointer p, .int .i64 n] w fun e W' => e = .returned (.tuple #[.int .i64 0, .int .i64 1]) ∧ W' = w := by
  have hN := isName_any n w
  rw [h] at hN
  go_enter Try.func40, Try.ntmps40
  go_wp2_with (go_at_call 44; refine hN.mono ?_; rintro e w1 ⟨rfl, hz⟩; subst hz)
  go_ret2
  exact ⟨rfl, rfl⟩
set_option maxRecDepth 20000 in
set_option maxHeartbeats 2000000 in
theorem Double_nil (n : Int) (w : World) (h : nameB n = true) : Calls Try.prog 40 #[.pointer none, .int .i64 n] w fun e W' => e = .returned (.tuple #[.int .i64 0, .int .i64 6]) ∧ W' = w := by
  have hN := isName_any n w
  have hF := find_nil n w
  rw [h] at hN
  go_enter Try.func40, Try.ntmps40
  go_wp2_with (first
    | (go_at_call 44; refine hN.mono ?_; rintro e w1 ⟨rfl, hz⟩; subst hz)
    | (go_at_call 43; refine hF.mono ?_; rintro e w1 ⟨rfl, hz⟩; subst hz))
  go_ret2
  exact ⟨rfl, rfl⟩
/-- Twice a span, at most 4096. -/
def twice (s : Int) : Int := if 2 * s ≤ 4096 then 2 * s else 4096
set_option maxRecDepth 20000 in
set_option maxHeartbeats 4000000 in
theorem Double_no {base : Nat} {w : World} {B : Nat} {v : Value} {F : Ft} {now : Int} (h : BelSt base w B v F now) (n : Int) (hn : nameB n = true) (hF : F n = none) :
    Calls Try.prog 40 #[.pointer (some ⟨B, 0, none⟩), .int .i64 n] w fun e W' => e = .returned (.tuple #[.int .i64 0, .int .i64 6]) ∧ W' = w := by
  obtain ⟨l, h1, hH, hR⟩ := h
  have hfew := hR.few
  have hFd := find_any h1 (by omega) n
  have hN := isName_any n w
  rw [hn] at hN
  go_enter Try.func40, Try.ntmps40
  go_wp2_with (go_at_call 44; refine hN.mono ?_; rintro e w1 ⟨rfl, hz⟩; subst hz)
  refine hFd.mono ?_
  rintro e w1 ⟨⟨k, hk, hkn, rfl⟩ | ⟨hno, rfl⟩, rfl⟩
  · have := hR.has (t := gf l k) (by rw [gf_at (List.getElem?_eq_getElem hk)]; exact List.getElem_mem hk)
    rw [hkn, hF] at this
    cases this
  · clear hno hFd hN hR hH h1 hfew
    go_wp2
    go_ret2
    exact ⟨rfl, rfl⟩
set_option maxRecDepth 20000 in
set_option maxHeartbeats 4000000 in
theorem Double_ok {base : Nat} {w : World} {B : Nat} {v : Value} {F : Ft} {now : Int} (h : BelSt base w B v F now) (n d s : Int) (hn : nameB n = true) (hF : F n = some (d, s)) (hw0 : 0 ≤ now) (hw1 : now ≤ 1099511627776) :
    Calls Try.prog 40 #[.pointer (some ⟨B, 0, none⟩), .int .i64 n] w fun e W' => e = .returned (.tuple #[.int .i64 (twice s), .int .i64 0]) ∧ ∃ v', BelSt base W' B v' (upd F n (some (now + twice s, twice s))) now ∧ Moved B v v' w W' := by
  obtain ⟨l, h1, hH, hR⟩ := h
  have hfew := hR.few
  obtain ⟨T, hT0⟩ : ∃ T, twice s = T := ⟨_, rfl⟩
  rw [hT0]
  have HT0 : Hid (twice s = T) := hT0
  clear hT0
  have hFd := find_any h1 (by omega) n
  have hN := isName_any n w
  rw [hn] at hN
  go_enter Try.func40, Try.ntmps40
  go_wp2_with (go_at_call 44; refine hN.mono ?_; rintro e w1 ⟨rfl, hz⟩; subst hz)
  refine hFd.mono ?_
  rintro e w1 ⟨⟨k, hk, hkn, rfl⟩ | ⟨hno, rfl⟩, rfl⟩
  · obtain ⟨⟨t0, t1, t2⟩, ht⟩ : ∃ t, l[k]? = some t := ⟨_, List.getElem?_eq_getElem hk⟩
    have hFk := hR.has (List.mem_of_getElem? ht)
    have hsp := hR.span _ (List.mem_of_getElem? ht)
    have hgk := gf_at ht
    rw [hgk] at hkn
    simp only at hkn hFk hsp
    subst hkn
    rw [hF] at hFk
    injection hFk with hFk
    injection hFk with e1 e2
    subst e1 e2
    obtain ⟨g, cap, rfl, hg1, hg2, hg3, hcap, hcs⟩ := h1.at (by omega)
    obtain ⟨x0, x1, x2⟩ := hcs k _ ht
    have c0 := cellB h1.blk 0 (.slice (some ⟨g, 0, none⟩) l.length cap) rfl
    have c1 := cellB h1.blk 1 (.int .i64 now) rfl
    have k0 : (0 : Int) ≤ (k : Int) := by omega
    have k1 : (k : Int) < (l.length : Int) := by omega
    simp only at x0 x1 x2
    have f0 := h1.own.frozenAt (k * 3)
    have f1 := h1.own.frozenAt (k * 3 + 1)
    have f2 := h1.own.frozenAt (k * 3 + 2)
    have s1 := hsp.1
    have s2 := hsp.2
    have hT : (if 4096 < 2 * s then 4096 else 2 * s) = T := by rw [← HT0.out]; unfold twice; split <;> split <;> omega
    have hT1 : 1 ≤ T ∧ T ≤ 4096 := by rw [← hT]; split <;> omega
    obtain ⟨q, hq⟩ : ∃ q, now + T = q := ⟨_, rfl⟩
    have hwr : IntKind.i64.wrap (now + T) = q := by rw [wrap_id8 _ (by omega) (by omega), hq]
    have HQ : Hid (now + T = q) := hq
    have hput := put3_bell h1 k hk (t0, q, T)
    have HD : Hid (DnI (l.set k (t0, q, T)).length (gf (l.set k (t0, q, T))) k) := by
      show DnI _ _ k
      rw [List.length_set]
      refine fix_down hH hk (fun x hx => ?_)
      unfold gf
      rw [List.getD_eq_getElem?_getD, List.getD_eq_getElem?_getD, List.getElem?_set_ne (Ne.symm hx)]
    have HR : Hid (Rep l F) := hR
    have HG : Hid (gf l k = (t0, d, s)) := hgk
    clear hFd hN hcs hsp hq hR hgk ht hF hH
    go_upto_region 7 with fail
    go_region
    all_goals
      simp only [put3] at hput
      obtain ⟨W3, hW3⟩ : ∃ W, (((w1.setCell ⟨g, k * 3, none⟩ (.int .i64 t0)).setCell ⟨g, k * 3 + 1, none⟩ (.int .i64 q)).setCell ⟨g, k * 3 + 2, none⟩ (.int .i64 T)) = W := ⟨_, rfl⟩
      rw [hW3] at hput ⊢
      have h3 := hput.1.next (below_drew (Below.refl _ W3))
      have hFx := hFix_any h3 k (by rw [List.length_set]; exact hk) (by rw [List.length_set]; omega) HD.out
      clear hW3 x0 x1 x2 c0 c1 f0 f1 f2 hwr hT
      go_wp2_with (go_at_call 49; refine hFx.mono ?_; rintro e w4 ⟨rfl, l4, h4, hp4, hh4, hm4⟩)
      go_ret2
      have hr4 := HR.out.put hk (d := q) (s := T) hT1 (l' := l4) (by rw [HG.out]; exact hp4)
      rw [HG.out] at hr4
      rw [HQ.out]
      exact ⟨rfl, _, ⟨l4, h4, hh4, hr4⟩, (hput.2.trans (Moved.of_below (below_drew (Below.refl _ W3)) _ _)).trans hm4⟩
  · have := hR.hasnt hno
    rw [hF] at this
    cases this
end Go.Proofs.Ytemmnojcickcpaa
