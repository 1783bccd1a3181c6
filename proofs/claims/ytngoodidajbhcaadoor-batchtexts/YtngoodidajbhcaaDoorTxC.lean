/- A batch's texts, read: the pool's own function Texts, and the document's. -/
import Derived.Test.YtngoodidajbhcaaDoorTxB
namespace Go.Proofs.YtngoodidajbhcaaDoor
open Go.RowKit
attribute [local go_sem ↓] Go.wp_at_zero Go.wp_at_succ

/-- Is a text a batch's? -/
def okT (s : List UInt8) : Bool := decide (good s) && (decide ((texts s).length ≤ 4) && !(texts s).any lgP)
/-- The texts of a batch, none where it is none; and the error. -/
def outT (s : List UInt8) : List (List UInt8) := if okT s = true then texts s else []
def errT (s : List UInt8) : Int := if okT s = true then 0 else 4
theorem out_no {s : List UInt8} (h : okT s = false) : outT s = [] ∧ errT s = 4 := by rw [outT, errT, h]; exact ⟨rfl, rfl⟩
theorem out_ok {s : List UInt8} (h : okT s = true) : outT s = texts s ∧ errT s = 0 := by rw [outT, errT, h]; exact ⟨rfl, rfl⟩
theorem Sl_none (w : World) : Sl w (.slice none 0 0) [] := .inl ⟨rfl, none, 0, rfl⟩

set_option maxRecDepth 20000 in
set_option maxHeartbeats 4000000 in
theorem bTexts_any (s : List UInt8) (w : World) (hs : s.length ≤ 1000000) (he : Env w) :
    Calls Tryd.prog 6 #[.string (bs s)] w fun e W' => ∃ v, e = .returned (.tuple #[v, .int .i64 (errT s)]) ∧ Sl W' v (outT s) ∧ Below w.heap.size w W' := by
  have hU := Unpack_any s w hs he
  have htl := texts_len s
  have HZ : Hid (okT s = (decide (good s) && (decide ((texts s).length ≤ 4) && !(texts s).any lgP))) := by show _ = _; rfl
  by_cases hg : good s
  · have e0 : errOf s = 0 := by rw [errOf, if_pos hg]
    rw [e0] at hU
    have hdg : decide (good s) = true := by simpa using hg
    rw [hdg] at HZ
    obtain ⟨T, hT⟩ : ∃ T, texts s = T := ⟨_, rfl⟩
    have HT : Hid (texts s = T) := hT
    rw [hT] at hU htl HZ
    clear e0 hg hdg hT
    by_cases h4 : 4 < T.length
    · have HK : Hid (okT s = false) := by show _ = _; rw [HZ.out, decide_eq_false (by omega)]; rfl
      have h4' : (4 : Int) < (T.length : Int) := by omega
      clear HZ
      go_enter Tryd.func6, Tryd.ntmps6
      go_wp2_with (first | (go_at_call 15; refine hU.mono ?_; rintro e w1 ⟨u, rfl, hrow, hb1⟩; obtain ⟨ua, uc, rfl⟩ := owns_slice hrow))
      go_ret2
      rw [(out_no HK.out).1, (out_no HK.out).2]
      exact ⟨_, rfl, Sl_none _, hb1⟩
    · have h4' : (T.length : Int) ≤ 4 := by omega
      cases hA : T.any lgP
      · have HK : Hid (okT s = true) := by show _ = _; rw [HZ.out, decide_eq_true (by omega), hA]; rfl
        clear HZ
        go_enter Tryd.func6, Tryd.ntmps6
        go_wp2_with (first
          | (go_at_call 15; refine hU.mono ?_; rintro e w1 ⟨u, rfl, hrow, hb1⟩; obtain ⟨ua, uc, rfl⟩ := owns_slice hrow; have hS := Sl.of_owns hrow; have hC := Contains_any hS (by omega); rw [hA] at hC; clear hrow)
          | (go_at_call 16; refine hC.mono ?_; rintro e w2 ⟨rfl, hb2⟩))
        go_ret2
        rw [(out_ok HK.out).1, (out_ok HK.out).2, HT.out]
        exact ⟨_, rfl, hS.below hb2 (Nat.le_refl _), hb1.trans (hb2.mono hb1.size)⟩
      · have HK : Hid (okT s = false) := by show _ = _; rw [HZ.out, hA]; simp
        clear HZ
        go_enter Tryd.func6, Tryd.ntmps6
        go_wp2_with (first
          | (go_at_call 15; refine hU.mono ?_; rintro e w1 ⟨u, rfl, hrow, hb1⟩; obtain ⟨ua, uc, rfl⟩ := owns_slice hrow; have hS := Sl.of_owns hrow; have hC := Contains_any hS (by omega); rw [hA] at hC; clear hrow)
          | (go_at_call 16; refine hC.mono ?_; rintro e w2 ⟨rfl, hb2⟩))
        go_ret2
        rw [(out_no HK.out).1, (out_no HK.out).2]
        exact ⟨_, rfl, Sl_none _, hb1.trans (hb2.mono hb1.size)⟩
  · have e0 : errOf s = 4 := by rw [errOf, if_neg hg]
    rw [e0] at hU
    have HK : Hid (okT s = false) := by show _ = _; rw [HZ.out, decide_eq_false hg]; rfl
    clear HZ hg e0
    go_enter Tryd.func6, Tryd.ntmps6
    go_wp2_with (first | (go_at_call 15; refine hU.mono ?_; rintro e w1 ⟨u, rfl, hrow, hb1⟩; obtain ⟨ua, uc, rfl⟩ := owns_slice hrow))
    go_ret2
    rw [(out_no HK.out).1, (out_no HK.out).2]
    exact ⟨_, rfl, Sl_none _, hb1⟩

set_option maxRecDepth 20000 in
set_option maxHeartbeats 4000000 in
theorem rTexts_any (s : List UInt8) (w : World) (hs : s.length ≤ 1000000) :
    Calls Tryd.prog 7 #[.string (bs s)] w fun e W' => ∃ v, e = .returned (.tuple #[v, .int .i64 (errT s)]) ∧ Sl W' v (outT s) ∧ Below w.heap.size w W' := by
  have hU := rUnpack_any s w hs
  have htl := texts_len s
  have HZ : Hid (okT s = (decide (good s) && (decide ((texts s).length ≤ 4) && !(texts s).any lgP))) := by show _ = _; rfl
  by_cases hg : good s
  · have e0 : errOf s = 0 := by rw [errOf, if_pos hg]
    rw [e0] at hU
    have hdg : decide (good s) = true := by simpa using hg
    rw [hdg] at HZ
    obtain ⟨T, hT⟩ : ∃ T, texts s = T := ⟨_, rfl⟩
    have HT : Hid (texts s = T) := hT
    rw [hT] at hU htl HZ
    clear e0 hg hdg hT
    by_cases h4 : 4 < T.length
    · have HK : Hid (okT s = false) := by show _ = _; rw [HZ.out, decide_eq_false (by omega)]; rfl
      have h4' : (4 : Int) < (T.length : Int) := by omega
      clear HZ
      go_enter Tryd.func7, Tryd.ntmps7
      go_wp2_with (first | (go_at_call 18; refine hU.mono ?_; rintro e w1 ⟨u, rfl, hrow, hb1⟩; obtain ⟨ua, uc, rfl⟩ := owns_slice hrow))
      go_ret2
      rw [(out_no HK.out).1, (out_no HK.out).2]
      exact ⟨_, rfl, Sl_none _, hb1⟩
    · have h4' : (T.length : Int) ≤ 4 := by omega
      have hT4 : T.length ≤ 4 := by omega
      go_enter Tryd.func7, Tryd.ntmps7
      go_wp2_with (first | (go_at_call 18; refine hU.mono ?_; rintro e w1 ⟨u, rfl, hrow, hb1⟩; obtain ⟨ua, uc, rfl⟩ := owns_slice hrow; have hS := Sl.of_owns hrow; clear hrow))
      clear hU
      go_loopg [22] T.length (fun gk i wr => ∃ k : Nat, k + gk = T.length ∧ i = .int .i64 k ∧ Hid (NoLg T k) ∧ wr = w1)
      case atStart => exact ⟨0, by omega, rfl, fun i a hi => absurd hi (Nat.not_lt_zero _), rfl⟩
      case round =>
        obtain ⟨k, hk, rfl, HN, rfl⟩ := hrel
        by_cases hlt : k < T.length
        · obtain ⟨a, ha⟩ : ∃ a, T[k]? = some a := ⟨_, List.getElem?_eq_getElem hlt⟩
          have hSl := hS
          rcases hS with ⟨rfl, _⟩ | ⟨vb, vo, vcap, hve, _, hvc⟩
          · cases ha
          injection hve with hva _ hvcap
          subst hva hvcap
          have hct := hvc k a ha
          have m0 : (0 : Int) ≤ (k : Int) := by omega
          have m1 : (k : Int) < (T.length : Int) := by omega
          have hts : (bs a).size = a.length := bs_size a
          clear hvc
          cases hp : lgP a
          · have HN2 : Hid (NoLg T (k + 1)) := NoLg.succ HN.out ha hp
            have hle : (a.length : Int) ≤ 4000 := by have := of_decide_eq_false hp; omega
            clear ha hp
            go_wp2
            go_roundg (T.length - (k + 1))
            case measure => omega
            case rel => exact ⟨k + 1, by omega, by go_num, HN2, rfl⟩
          · have HK : Hid (okT s = false) := by show _ = _; rw [HZ.out, any_hit HN.out ha hp]; simp
            have hle : (4000 : Int) < (a.length : Int) := by have := of_decide_eq_true hp; omega
            clear ha hp
            go_wp2
            go_ret2
            rw [(out_no HK.out).1, (out_no HK.out).2]
            exact ⟨_, rfl, Sl_none _, hb1⟩
        · have hkl : k = T.length := by omega
          subst hkl
          have HK : Hid (okT s = true) := by show _ = _; rw [HZ.out, decide_eq_true (by omega), any_none HN.out]; rfl
          go_wp2
          go_ret2
          rw [(out_ok HK.out).1, (out_ok HK.out).2, HT.out]
          exact ⟨_, rfl, hS, hb1⟩
  · have e0 : errOf s = 4 := by rw [errOf, if_neg hg]
    rw [e0] at hU
    have HK : Hid (okT s = false) := by show _ = _; rw [HZ.out, decide_eq_false hg]; rfl
    clear HZ hg e0
    go_enter Tryd.func7, Tryd.ntmps7
    go_wp2_with (first | (go_at_call 18; refine hU.mono ?_; rintro e w1 ⟨u, rfl, hrow, hb1⟩; obtain ⟨ua, uc, rfl⟩ := owns_slice hrow))
    go_ret2
    rw [(out_no HK.out).1, (out_no HK.out).2]
    exact ⟨_, rfl, Sl_none _, hb1⟩
end Go.Proofs.YtngoodidajbhcaaDoor
