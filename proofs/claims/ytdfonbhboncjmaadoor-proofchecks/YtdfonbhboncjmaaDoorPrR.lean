/- proof.Check, walked. -/
import Derived.Test.YtdfonbhboncjmaaDoorPrQ
namespace Go.Proofs.YtdfonbhboncjmaaDoor
open Go.RowKit Go.Maps
attribute [local go_sem ↓] Go.wp_at_zero Go.wp_at_succ

theorem fstB_inv {P : Nat → Bool} {n : Nat} (h : fstB P n = -1) : ∀ j, j < n → P j = false := by
  intro j hj
  cases e : (List.range n).find? P with
  | none =>
    rw [List.find?_eq_none] at e
    have := e j (List.mem_range.2 hj)
    simpa using this
  | some i =>
    rw [fstB, e] at h
    have h' : ((i : Nat) : Int) = -1 := h
    omega
/-- The first place at which a rule is broken. -/
def Rl (calls : List Cl) (pts : List Pt) : Nat → Int
  | 0 => fstB (P1 calls) calls.length
  | 1 => fstB (P2 calls pts) pts.length
  | 2 => fstB (P3 calls pts) calls.length
  | _ => fstB (P4 calls pts) pts.length
/-- What Check tells. -/
def chkG (calls : List Cl) (pts : List Pt) : Int × Int := if Rl calls pts 0 ≠ -1 then (1, Rl calls pts 0) else if Rl calls pts 1 ≠ -1 then (2, Rl calls pts 1) else if Rl calls pts 2 ≠ -1 then (3, Rl calls pts 2) else if Rl calls pts 3 ≠ -1 then (4, Rl calls pts 3) else (0, 0)
theorem chkG_none {calls : List Cl} {pts : List Pt} (h : ∀ r, r < 4 → Rl calls pts r = -1) : chkG calls pts = (0, 0) := by
  rw [chkG, h 0 (by omega), h 1 (by omega), h 2 (by omega), h 3 (by omega)]
  rfl
theorem chkG_at {calls : List Cl} {pts : List Pt} {k : Nat} (hk : k < 4) (h : ∀ r, r < k → Rl calls pts r = -1) (h2 : Rl calls pts k ≠ -1) : chkG calls pts = ((k : Int) + 1, Rl calls pts k) := by
  rcases k with _ | _ | _ | _ | k
  · rw [chkG, if_pos h2]; rfl
  · rw [chkG, if_neg (by rw [h 0 (by omega)]; decide), if_pos h2]; rfl
  · rw [chkG, if_neg (by rw [h 0 (by omega)]; decide), if_neg (by rw [h 1 (by omega)]; decide), if_pos h2]; rfl
  · rw [chkG, if_neg (by rw [h 0 (by omega)]; decide), if_neg (by rw [h 1 (by omega)]; decide), if_neg (by rw [h 2 (by omega)]; decide), if_pos h2]; rfl
  · omega
set_option maxRecDepth 20000 in
theorem broken1 (va : Option Addr) (vn vcap : Nat) (pa : Option Addr) (pn pcap q : Nat) (R : Int) (w : World) (h : ∀ W, Below w.heap.size w W → Calls Tryd.prog 28 #[.agg #[.slice va vn vcap, .slice pa pn pcap, .map (some q)]] W fun e W' => e = .returned (.int .i64 R) ∧ Below W.heap.size W W') :
    Calls Tryd.prog 19 #[.agg #[.slice va vn vcap, .slice pa pn pcap, .map (some q)], .int .i64 1] w fun e W' => e = .returned (.int .i64 R) ∧ Below w.heap.size w W' := by
  have hb : Below w.heap.size w (w.alloc (.cells #[.slice va vn vcap, .slice pa pn pcap, .map (some q)] 61)) := (Below.refl _ w).alloc (Nat.le_refl _) _
  have hh := h _ hb
  have HB : Hid (_) := hb
  clear h hb
  go_enter Tryd.func19, Tryd.ntmps19
  go_wp2_with (go_at_call 28; refine hh.mono ?_; clear hh; rintro e w1 ⟨rfl, hb1⟩)
  go_ret
  exact ⟨rfl, HB.out.trans (hb1.mono HB.out.size)⟩
set_option maxRecDepth 20000 in
theorem broken2 (va : Option Addr) (vn vcap : Nat) (pa : Option Addr) (pn pcap q : Nat) (R : Int) (w : World) (h : ∀ W, Below w.heap.size w W → Calls Tryd.prog 29 #[.agg #[.slice va vn vcap, .slice pa pn pcap, .map (some q)]] W fun e W' => e = .returned (.int .i64 R) ∧ Below W.heap.size W W') :
    Calls Tryd.prog 19 #[.agg #[.slice va vn vcap, .slice pa pn pcap, .map (some q)], .int .i64 2] w fun e W' => e = .returned (.int .i64 R) ∧ Below w.heap.size w W' := by
  have hb : Below w.heap.size w (w.alloc (.cells #[.slice va vn vcap, .slice pa pn pcap, .map (some q)] 61)) := (Below.refl _ w).alloc (Nat.le_refl _) _
  have hh := h _ hb
  have HB : Hid (_) := hb
  clear h hb
  go_enter Tryd.func19, Tryd.ntmps19
  go_wp2_with (go_at_call 29; refine hh.mono ?_; clear hh; rintro e w1 ⟨rfl, hb1⟩)
  go_ret
  exact ⟨rfl, HB.out.trans (hb1.mono HB.out.size)⟩
set_option maxRecDepth 20000 in
theorem broken3 (va : Option Addr) (vn vcap : Nat) (pa : Option Addr) (pn pcap q : Nat) (R : Int) (w : World) (h : ∀ W, Below w.heap.size w W → Calls Tryd.prog 30 #[.agg #[.slice va vn vcap, .slice pa pn pcap, .map (some q)]] W fun e W' => e = .returned (.int .i64 R) ∧ Below W.heap.size W W') :
    Calls Tryd.prog 19 #[.agg #[.slice va vn vcap, .slice pa pn pcap, .map (some q)], .int .i64 3] w fun e W' => e = .returned (.int .i64 R) ∧ Below w.heap.size w W' := by
  have hb : Below w.heap.size w (w.alloc (.cells #[.slice va vn vcap, .slice pa pn pcap, .map (some q)] 61)) := (Below.refl _ w).alloc (Nat.le_refl _) _
  have hh := h _ hb
  have HB : Hid (_) := hb
  clear h hb
  go_enter Tryd.func19, Tryd.ntmps19
  go_wp2_with (go_at_call 30; refine hh.mono ?_; clear hh; rintro e w1 ⟨rfl, hb1⟩)
  go_ret
  exact ⟨rfl, HB.out.trans (hb1.mono HB.out.size)⟩
set_option maxRecDepth 20000 in
theorem broken4 (va : Option Addr) (vn vcap : Nat) (pa : Option Addr) (pn pcap q : Nat) (R : Int) (w : World) (h : ∀ W, Below w.heap.size w W → Calls Tryd.prog 31 #[.agg #[.slice va vn vcap, .slice pa pn pcap, .map (some q)]] W fun e W' => e = .returned (.int .i64 R) ∧ Below W.heap.size W W') :
    Calls Tryd.prog 19 #[.agg #[.slice va vn vcap, .slice pa pn pcap, .map (some q)], .int .i64 4] w fun e W' => e = .returned (.int .i64 R) ∧ Below w.heap.size w W' := by
  have hb : Below w.heap.size w (w.alloc (.cells #[.slice va vn vcap, .slice pa pn pcap, .map (some q)] 61)) := (Below.refl _ w).alloc (Nat.le_refl _) _
  have hh := h _ hb
  have HB : Hid (_) := hb
  clear h hb
  go_enter Tryd.func19, Tryd.ntmps19
  go_wp2_with (go_at_call 31; refine hh.mono ?_; clear hh; rintro e w1 ⟨rfl, hb1⟩)
  go_ret
  exact ⟨rfl, HB.out.trans (hb1.mono HB.out.size)⟩
theorem key_short {calls : List Cl} (h : Rl calls [] 0 = -1) : ∀ c ∈ calls, c.op.k.length ≤ 140737488351232 := by
  intro c hc
  obtain ⟨i, hi, e⟩ := List.getElem_of_mem hc
  have ho : calls[i]? = some c := by rw [List.getElem?_eq_getElem hi, e]
  have h1 := fstB_inv h i hi
  rw [P1_at ho] at h1
  have h2 : okCall c = true := by
    cases e2 : okCall c
    · rw [e2] at h1; cases h1
    · rfl
  simp only [okCall, Bool.and_eq_true, decide_eq_true_eq] at h2
  have h3 : chk c.op.kind c.op.k c.op.v c.op.o = 0 := h2.1.1.2
  have h4 : isK c.op.k = true := by
    cases e4 : isK c.op.k
    · unfold chk at h3
      by_cases h5 : c.op.kind < 1 ∨ 5 < c.op.kind
      · rw [if_pos h5] at h3; cases h3
      · rw [if_neg h5, if_pos (.inl e4)] at h3; cases h3
    · rfl
  simp only [isK, Bool.and_eq_true, decide_eq_true_eq] at h4
  omega
theorem callAt_mem (calls : List Cl) (p : Pt) : callAt calls p ∈ calls ∨ callAt calls p = clZ := by
  unfold callAt
  cases e : callOf calls p with
  | none => exact .inr rfl
  | some c =>
    left
    unfold callOf at e
    cases e2 : lastI (calls.map ck) p.cl p.no calls.length with
    | none => rw [e2] at e; cases e
    | some i => rw [e2] at e; exact List.mem_of_getElem? e
/-- Calls and points as they lie, and what is known of them. -/
structure Hs (w : World) (vc vp : Value) (calls : List Cl) (pts : List Pt) : Prop where
  hc : SlF ccs 10 w vc calls
  hp : SlF pks 5 w vp pts
  lc : calls.length ≤ 2000
  lp : pts.length ≤ 2000
  wc : ∀ c ∈ calls, wfK (ck c)
  wp : ∀ p ∈ pts, wfK (pk2 p)
theorem Hs.on {w w' : World} {vc vp : Value} {calls : List Cl} {pts : List Pt} (h : Hs w vc vp calls pts) {m : Nat} (hb : Below m w w') (hm : w.heap.size ≤ m) : Hs w' vc vp calls pts := ⟨h.hc.on hb hm, h.hp.on hb hm, h.lc, h.lp, h.wc, h.wp⟩
theorem broken_any {calls : List Cl} {pts : List Pt} {va pa : Option Addr} {vcap pcap q : Nat} {Q : List (Int × Int × Int)} {w : World} (h : Hs w (.slice va calls.length vcap) (.slice pa pts.length pcap) calls pts) (hM : MapAt w 87 (some q) (Q.map sent)) (hQ : QI (calls.map ck) calls.length Q) (he : EnvK w) {k : Nat} (hk : k < 4) (hr : ∀ r, r < k → Rl calls pts r = -1) :
    Calls Tryd.prog 19 #[.agg #[.slice va calls.length vcap, .slice pa pts.length pcap, .map (some q)], .int .i64 ((k : Int) + 1)] w fun e W' => e = .returned (.int .i64 (Rl calls pts k)) ∧ Below w.heap.size w W' := by
  have hM' : ∀ W, Below w.heap.size w W → MapAt W 87 (some q) (Q.map sent) := fun W hW => hM.keep fun b e => hW.block b (hM.lt e)
  have lc := h.lc
  have lp := h.lp
  rcases k with _ | _ | _ | _ | k
  · exact broken1 _ _ _ _ _ _ _ _ w fun W hW => brokenCall_any calls _ pa pts.length pcap q W (h.on hW (Nat.le_refl _)).hc (by omega)
  · exact broken2 _ _ _ _ _ _ _ _ w fun W hW => brokenPoint_any calls pts _ _ q Q W (h.on hW (Nat.le_refl _)).hc (h.on hW (Nat.le_refl _)).hp (hM' W hW) hQ (by omega) h.wp
  · exact broken3 _ _ _ _ _ _ _ _ w fun W hW => missingPoint_any calls pts _ _ q W (h.on hW (Nat.le_refl _)).hc (h.on hW (Nat.le_refl _)).hp (by omega) h.wp h.wc (by omega)
  · refine broken4 _ _ _ _ _ _ _ _ w fun W hW => brokenAnswer_any calls pts _ _ q Q W (h.on hW (Nat.le_refl _)).hc (h.on hW (Nat.le_refl _)).hp (hM' W hW) hQ (by omega) h.wp (fun p _ => ?_) (he.next hW)
    rcases callAt_mem calls p with e | e
    · exact key_short (hr 0 (by omega)) _ e
    · rw [e]; decide
  · omega
set_option maxRecDepth 20000 in
set_option maxHeartbeats 1500000 in
theorem Check24_any {calls : List Cl} {pts : List Pt} {vc vp : Value} {w : World} (h : Hs w vc vp calls pts) (he : EnvK w) :
    Calls Tryd.prog 8 #[vc, vp] w fun e W' => e = .returned (.tuple #[.int .i64 (chkG calls pts).1, .int .i64 (chkG calls pts).2, .int .i64 0]) ∧ Below w.heap.size w W' := by
  obtain ⟨va, vcap, rfl⟩ := h.hc.slice
  obtain ⟨pa, pcap, rfl⟩ := h.hp.slice
  have hNH := newHistory_any calls _ pa pts.length pcap w h.hc (by have := h.lc; omega) h.wc
  have l1 : ¬ ((2000 : Int) < (calls.length : Int)) := by have := h.lc; omega
  have l2 : ¬ ((2000 : Int) < (pts.length : Int)) := by have := h.lp; omega
  obtain ⟨N, hN⟩ : ∃ N, w.heap.size = N := ⟨_, rfl⟩
  rw [hN] at hNH
  have HN : Hid (w.heap.size = N) := hN
  have HH : Hid (Hs w (.slice va calls.length vcap) (.slice pa pts.length pcap) calls pts ∧ EnvK w) := ⟨h, he⟩
  clear h he hN
  go_enter Tryd.func8, Tryd.ntmps8
  go_upto_region 4 with (go_at_call 18; refine hNH.mono ?_; clear hNH; rintro e w1 ⟨q, Q, rfl, hM, hQ, hNq, hB⟩)
  obtain ⟨X, hX⟩ : ∃ X, w1.heap.size = X := ⟨_, rfl⟩
  have rX := heap_alloc_new w1 (.cells #[.slice va calls.length vcap, .slice pa pts.length pcap, .map (some q)] 61)
  have hbX := (Below.refl _ w1).alloc (Nat.le_refl _) (.cells #[.slice va calls.length vcap, .slice pa pts.length pcap, .map (some q)] 61)
  obtain ⟨W2, hW2⟩ : ∃ W, w1.alloc (.cells #[.slice va calls.length vcap, .slice pa pts.length pcap, .map (some q)] 61) = W := ⟨_, rfl⟩
  rw [hW2] at rX hbX ⊢
  rw [hX] at rX
  try rw [hX]
  have hs1 : N ≤ w1.heap.size := by have := hB.size; have := HN.out; omega
  have hM2 : MapAt W2 87 (some q) (Q.map sent) := hM.keep fun b e => hbX.block b (hM.lt e)
  have HR : Hid (W2.heap[X]? = some (.cells #[.slice va calls.length vcap, .slice pa pts.length pcap, .map (some q)] 61) ∧ MapAt W2 87 (some q) (Q.map sent) ∧ QI (calls.map ck) calls.length Q ∧ Below N w W2 ∧ N ≤ W2.heap.size) := ⟨rX, hM2, hQ, hB.trans (hbX.mono hs1), Nat.le_trans hs1 hbX.size⟩
  clear hM hQ hNq hB rX hbX hW2 hX hs1 hM2 l1 l2
  go_wp2_with fail
  go_loopg [8] 4 (fun gk i wr => ∃ k : Nat, k + gk = 4 ∧ i = .int .i64 ((k : Int) + 1) ∧ (∀ r, r < k → Rl calls pts r = -1) ∧ Below W2.heap.size W2 wr)
  case atStart => exact ⟨0, by omega, rfl, fun r hr => by omega, Below.refl _ _⟩
  case round =>
    obtain ⟨k, hk, rfl, hr, hB⟩ := hrel
    have hbW : Below N w wr := HR.out.2.2.2.1.trans (hB.mono HR.out.2.2.2.2)
    by_cases hk4 : k = 4
    · subst hk4
      have HF : Hid (chkG calls pts = (0, 0) ∧ Below N w wr) := ⟨chkG_none hr, hbW⟩
      clear hr hB hbW HR HH
      go_wp2
      rw [HF.out.1]
      exact bodyPost_ret (v := .tuple #[.int .i64 0, .int .i64 0, .int .i64 0]) (by simp [results, Tryd.f8, go_sem]) rfl ⟨rfl, by rw [HN.out]; exact HF.out.2⟩
    have hk3 : k < 4 := by omega
    have hbr := broken_any (HH.out.1.on hbW (by rw [HN.out]; exact Nat.le_refl _)) (HR.out.2.1.keep fun b e => hB.block b (HR.out.2.1.lt e)) HR.out.2.2.1 (HH.out.2.next (by rw [HN.out]; exact hbW)) hk3 hr
    have rX := (hB.block X (Array.getElem?_eq_some_iff.1 HR.out.1).1).trans HR.out.1
    have x0 := cellB rX 0 _ rfl
    have x1 := cellB rX 1 _ rfl
    have x2 := cellB rX 2 _ rfl
    obtain ⟨R, hR⟩ : ∃ R, Rl calls pts k = R := ⟨_, rfl⟩
    rw [hR] at hbr
    have i1 : ((k : Int) + 1 ≤ 4) := by omega
    have HB : Hid (_) := hB
    have HBW : Hid (_) := hbW
    by_cases hR1 : R = -1
    · subst hR1
      have HRN : Hid (∀ r, r < k + 1 → Rl calls pts r = -1) := fun r h' => by
        by_cases e : r = k
        · subst e; exact hR
        · exact hr r (by omega)
      clear hr hB hbW rX hR HR HH
      go_wp2_with (go_at_call 19; refine hbr.mono ?_; clear hbr; rintro e w2 ⟨rfl, hb2⟩)
      go_roundg (4 - (k + 1))
      case measure => omega
      case rel => exact ⟨k + 1, by omega, by go_num, HRN.out, HB.out.trans (hb2.mono HB.out.size)⟩
    · have HF : Hid (chkG calls pts = ((k : Int) + 1, R)) := by show _ = _; rw [← hR]; exact chkG_at hk3 hr (by rw [hR]; exact hR1)
      have hne : (R == -1) = false := by simpa using hR1
      clear hr hB hbW rX hR HR HH
      go_wp2_with (go_at_call 19; refine hbr.mono ?_; clear hbr; rintro e w2 ⟨rfl, hb2⟩)
      rw [HF.out]
      exact bodyPost_ret (v := .tuple #[.int .i64 ((k : Int) + 1), .int .i64 R, .int .i64 0]) (by simp [results, Tryd.f8, go_sem]) rfl ⟨rfl, by rw [HN.out]; exact HBW.out.trans (hb2.mono (by have := HBW.out.size; have := HN.out; omega))⟩
end Go.Proofs.YtdfonbhboncjmaaDoor
