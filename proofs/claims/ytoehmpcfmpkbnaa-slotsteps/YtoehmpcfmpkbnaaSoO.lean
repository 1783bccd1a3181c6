/- Who fails, and a slot that is filled, walked. -/
import Derived.Test.YtoehmpcfmpkbnaaSoN
namespace Go.Proofs.Ytoehmpcfmpkbnaa
open Go.RowKit
attribute [local go_sem ↓] Go.wp_at_zero Go.wp_at_succ

theorem wrap_small (n : Int) (h0 : 0 ≤ n) (h1 : n ≤ 1) : IntKind.i64.wrap n = n := by
  have : n = 0 ∨ n = 1 := by omega
  rcases this with rfl | rfl <;> decide
theorem ofInt_par (x : Int) : ((BitVec.ofInt 64 x).toNat : Int) % 2 = x % 2 := by
  rw [BitVec.toNat_ofInt]; omega
theorem and_one (x : Int) : bits .and .i64 x 1 = x % 2 := by
  have h : ((BitVec.ofInt 64 x) &&& (BitVec.ofInt 64 1)).toNat = (BitVec.ofInt 64 x).toNat % 2 := by
    rw [BitVec.toNat_and, show (BitVec.ofInt 64 1).toNat = 1 from by decide, Nat.and_one_is_mod]
  show IntKind.i64.wrap (((BitVec.ofInt 64 x) &&& (BitVec.ofInt 64 1)).toNat : Int) = _
  rw [h]
  have := ofInt_par x
  rw [wrap_small _ (by omega) (by omega)]
  omega
/-- A bit. -/
def bitN (s : Int) (k : Nat) : Nat := (s / 2 ^ k % 2).toNat
theorem bitN_le (s : Int) (k : Nat) : bitN s k ≤ 1 := by unfold bitN; omega
theorem bitN_is (s : Int) (k : Nat) : bits .and .i64 (s / 2 ^ k) 1 = (bitN s k : Int) := by
  rw [and_one]; unfold bitN; omega
def cntB (s : Int) : Nat → Nat
  | 0 => 0
  | k + 1 => cntB s k + bitN s k
theorem cntB_le (s : Int) (k : Nat) : cntB s k ≤ k := by
  induction k with
  | zero => simp [cntB]
  | succ k ih => have := bitN_le s k; simp only [cntB]; omega
/-- Does it fail? -/
def failB (s : Int) (f i : Nat) : Bool := decide (bitN s i = 1) && decide (cntB s (i + 1) ≤ f)
/-- How many of the first ones are so. -/
def nP (c : Nat → Bool) : Nat → Nat
  | 0 => 0
  | m + 1 => nP c m + if c m = true then 1 else 0
theorem fail_few (s : Int) (f m : Nat) : nP (failB s f) m ≤ cntB s m ∧ nP (failB s f) m ≤ f := by
  induction m with
  | zero => simp [nP, cntB]
  | succ m ih =>
    simp only [nP, cntB]
    split
    · rename_i h
      have h1 : bitN s m = 1 ∧ cntB s (m + 1) ≤ f := by simpa [failB] using h
      simp only [cntB] at h1
      omega
    · omega
theorem pair_few {a b c : Nat → Bool} (h : ∀ i, a i = true → b i = true → c i = true) (m : Nat) : nP a m + nP b m ≤ m + nP c m := by
  induction m with
  | zero => simp [nP]
  | succ m ih =>
    simp only [nP]
    have := h m
    cases ha : a m <;> cases hb : b m <;> cases hc : c m <;> simp_all <;> omega
theorem tagsTo_len (V : Vs) (k : Nat) (t : List UInt8) (m : Nat) : (tagsTo V k t m).length = nP (fun i => hasT (V k i) t) m := by
  induction m with
  | zero => rfl
  | succ m ih =>
    simp only [tagsTo, nP, List.length_append, ih]
    split <;> simp
set_option maxHeartbeats 2000000 in
theorem fails_any (s : Int) (f i : Nat) (hi : i ≤ 9) (w : World) : Calls Try.prog 29 #[.int .i64 s, .int .i64 f, .int .i64 i] w fun e W' => e = .returned (.bool (failB s f i)) ∧ W' = w := by
  go_enter Try.func29, Try.ntmps29
  go_wp2
  go_loopg [7, 8] (i + 1) (fun gk n k wr => ∃ j : Nat, j + gk = i + 1 ∧ k = .int .i64 j ∧ n = .int .i64 (cntB s j) ∧ wr = w)
  case atStart => exact ⟨0, by omega, rfl, rfl, rfl⟩
  case round =>
    obtain ⟨j, hj, rfl, rfl, rfl⟩ := hrel
    by_cases hlt : j ≤ i
    · have hb := bitN_is s j
      have hb1 := bitN_le s j
      have hc := cntB_le s j
      have HS : Hid (cntB s (j + 1) = cntB s j + bitN s j) := rfl
      obtain ⟨b, hbe⟩ : ∃ b, bitN s j = b := ⟨_, rfl⟩
      obtain ⟨c, hce⟩ : ∃ c, cntB s j = c := ⟨_, rfl⟩
      rw [hbe] at hb hb1 HS
      rw [hce] at HS hc ⊢
      have m0 : (j : Int) ≤ (i : Int) := by omega
      have m1 : (j : Int) ≤ 9 := by omega
      have m2 : (c : Int) ≤ 9 := by omega
      have m3 : (b : Int) ≤ 1 := by omega
      clear hbe hce
      go_wp2
      go_roundg (i + 1 - (j + 1))
      case measure => omega
      case rel => exact ⟨j + 1, by omega, by go_num, by rw [HS.out]; go_num, rfl⟩
    · have hji : j = i + 1 := by omega
      subst hji
      have hb := bitN_is s i
      have hb1 := bitN_le s i
      have m0 : (i : Int) ≤ 9 := by omega
      have hc := cntB_le s (i + 1)
      have hcs : (bitN s i = 0 ∧ failB s f i = false) ∨ (bitN s i = 1 ∧ cntB s (i + 1) ≤ f ∧ failB s f i = true) ∨ (bitN s i = 1 ∧ f < cntB s (i + 1) ∧ failB s f i = false) := by
        unfold failB
        by_cases h0 : bitN s i = 0
        · left; simp [h0]
        · have h1 : bitN s i = 1 := by omega
          by_cases h2 : cntB s (i + 1) ≤ f
          · right; left; simp [h1, h2]
          · right; right; exact ⟨h1, by omega, by simp [h2]⟩
      obtain ⟨c, hce⟩ : ∃ c, cntB s (i + 1) = c := ⟨_, rfl⟩
      obtain ⟨F, hFe⟩ : ∃ F, failB s f i = F := ⟨_, rfl⟩
      have HF : Hid (failB s f i = F) := hFe
      rw [hce, hFe] at hcs
      rw [hce] at hc ⊢
      clear hce hFe
      rcases hcs with ⟨h0, rfl⟩ | ⟨h0, h1, rfl⟩ | ⟨h0, h1, rfl⟩
      all_goals
        rw [h0] at hb
        try have h2 : (c : Int) ≤ (f : Int) := by omega
        try have h3 : (f : Int) < (c : Int) := by omega
        go_wp2
        go_ret
        exact ⟨by rw [HF.out]; first | rfl | (simp; done) | (simp; omega), rfl⟩
/-- The texts of which the i'th one's vote is. -/
def fillT (H O : List (List UInt8)) (s : Int) (f i : Nat) : List (List UInt8) := if failB s f i = true then O else H
/-- A vote of a text, if it is not too long. -/
def fillO (o : Option (List UInt8)) : Vt := match o with | some t => if t.length ≤ 30000 then (t, tag16) else ([], []) | none => ([], [])
/-- The votes of the first ones. -/
def fillV (q : Nat) (H O : List (List UInt8)) (s : Int) (f m : Nat) : Vs := fun k i => if k = q ∧ i < m then fillO (fillT H O s f i)[i]? else ([], [])
theorem fillV_0 (q : Nat) (H O : List (List UInt8)) (s : Int) (f : Nat) : fillV q H O s f 0 = fun _ _ => ([], []) := by funext k i; simp [fillV]
theorem fillV_none {q : Nat} {H O : List (List UInt8)} {s : Int} {f m : Nat} (h : fillO (fillT H O s f m)[m]? = ([], [])) : fillV q H O s f (m + 1) = fillV q H O s f m := by
  funext k i
  unfold fillV
  by_cases e : k = q ∧ i = m
  · obtain ⟨rfl, rfl⟩ := e
    rw [if_pos ⟨rfl, by omega⟩, if_neg (by omega), h]
  · by_cases e2 : k = q ∧ i < m
    · rw [if_pos ⟨e2.1, by omega⟩, if_pos e2]
    · rw [if_neg (by omega), if_neg e2]
theorem fillV_some {q : Nat} {H O : List (List UInt8)} {s : Int} {f m : Nat} {t : List UInt8} (h : fillO (fillT H O s f m)[m]? = (t, tag16)) : updV (fillV q H O s f m) q m (t, tag16) = fillV q H O s f (m + 1) := by
  funext k i
  unfold updV fillV
  by_cases e : k = q ∧ i = m
  · obtain ⟨rfl, rfl⟩ := e
    rw [if_pos ⟨rfl, rfl⟩, if_pos ⟨rfl, by omega⟩, h]
  · rw [if_neg e]
    by_cases e2 : k = q ∧ i < m
    · rw [if_pos e2, if_pos ⟨e2.1, by omega⟩]
    · rw [if_neg e2, if_neg (by omega)]
theorem fillV_vote {q : Nat} {H O : List (List UInt8)} {s : Int} {f m : Nat} {t : List UInt8} (hq : q < 2) (hm : m ≤ 3 * f) (h : (fillT H O s f m)[m]? = some t) : ∃ b E, voteR (fillV q H O s f m) f ((q : Int) + 1) m t tag16 = (b, E, fillV q H O s f (m + 1)) := by
  have hok : okV f ((q : Int) + 1) m = true := by
    have hcs : q = 0 ∨ q = 1 := by omega
    rcases hcs with rfl | rfl <;> simp [okV, isK, inB] <;> omega
  unfold voteR
  rw [hok]
  by_cases ht : t.length ≤ 30000
  · have hE : faultE true false t tag16 = 0 := by
      unfold faultE
      rw [if_neg (by decide), if_neg (by omega), if_neg (by decide), if_neg (by decide)]
    rw [hE, if_neg (by decide), ownV_at hq hm]
    have hv : fillV q H O s f m q m = ([], []) := by simp [fillV]
    rw [hv, if_neg (by decide), show ((q : Int) + 1 - 1).toNat = q by omega, Int.toNat_natCast, fillV_some (t := t) (by rw [h]; simp [fillO, ht])]
    exact ⟨_, _, rfl⟩
  · have hE : faultE true false t tag16 = 2 := by
      unfold faultE
      rw [if_neg (by decide), if_pos (by omega)]
    rw [hE, if_pos (by decide), fillV_none (m := m) (by rw [h]; simp [fillO, ht])]
    exact ⟨_, _, rfl⟩
set_option maxRecDepth 20000 in
set_option maxHeartbeats 8000000 in
theorem fill_ok {gr : Int} {f p : Nat} (hgr : inB gr 4 = true) (hf : f ≤ 3) (hp : p ≤ 3 * f) {q : Nat} (hq : q < 2) (s : Int) (v1 v2 v3 u : Value) (lH lO : List (List UInt8)) (w : World) (hH : Sl w v1 lH) (hO : Sl w u lO) :
    Calls Try.prog 21 #[.agg #[.int .i64 gr, .int .i64 f, .int .i64 p], .int .i64 ((q : Int) + 1), .agg #[.int .i64 s, v1, v2, v3], u] w fun e W' => ∃ B, e = .returned (.pointer (some ⟨B, 0, none⟩)) ∧ w.heap.size ≤ B ∧ SlotAt W' B gr f p (fillV q lH lO s f (3 * f + 1)) ∧ Below w.heap.size w W' := by
  obtain ⟨aH, cH, rfl⟩ := hH.slice
  obtain ⟨aO, cO, rfl⟩ := hO.slice
  obtain ⟨W0, hW0⟩ : ∃ W, (w.alloc (.cells #[.int .i64 gr, .int .i64 f, .int .i64 p] 23)).alloc (.cells #[.int .i64 s, .slice aH lH.length cH, v2, v3] 64) = W := ⟨_, rfl⟩
  have hb1 : Below w.heap.size w (w.alloc (.cells #[.int .i64 gr, .int .i64 f, .int .i64 p] 23)) := (Below.refl _ w).alloc (Nat.le_refl _) _
  have hb0 : Below w.heap.size w W0 := by rw [← hW0]; exact hb1.alloc hb1.size _
  have rX : W0.heap[w.heap.size]? = some (.cells #[.int .i64 gr, .int .i64 f, .int .i64 p] 23) := by
    rw [← hW0]; exact (Below.heap_alloc _ _ _ (by simp)).trans (heap_alloc_new w _)
  have rY : W0.heap[w.heap.size + 1]? = some (.cells #[.int .i64 s, .slice aH lH.length cH, v2, v3] 64) := by
    have := heap_alloc_new (w.alloc (.cells #[.int .i64 gr, .int .i64 f, .int .i64 p] 23)) (.cells #[.int .i64 s, .slice aH lH.length cH, v2, v3] 64)
    rw [hW0] at this
    simpa using this
  have HX : Hid (_ ∧ _) := ⟨hold3 rX, hold4 rY⟩
  have x0 := cellB rX 0 _ rfl
  have x1 := cellB rX 1 _ rfl
  have x2 := cellB rX 2 _ rfl
  have hN := New_ok hgr hf hp W0
  rw [← fillV_0 q lH lO s f] at hN
  obtain ⟨N, hNn⟩ : ∃ N, 3 * f + 1 = N := ⟨_, rfl⟩
  rw [hNn]
  clear rX rY hb1
  go_enter Try.func21, Try.ntmps21
  go_upto_region 1 with fail
  clear hW0
  go_upto_region 4 with (first
    | (go_at_call 8; refine hN.mono ?_; rintro e w1 ⟨rfl, h1, hb1⟩))
  have hK0 : Kp W0 W0.heap.size gr f p (fillV q lH lO s f 0) w1 := ⟨h1, hb1, Nat.le_refl _⟩
  have hBs : w.heap.size ≤ W0.heap.size := hb0.size
  obtain ⟨B, hB⟩ : ∃ B, W0.heap.size = B := ⟨_, rfl⟩
  rw [hB] at hK0 hBs
  rw [show (⟨W0.heap.size, 0, none⟩ : Addr) = ⟨B, 0, none⟩ by rw [hB]]
  clear hN h1 hb1 hB x0 x1 x2
  go_wp2_with fail
  go_loopg [11] N (fun gk i wr => ∃ m : Nat, m + gk = N ∧ i = .int .i64 m ∧ Kp W0 B gr f p (fillV q lH lO s f m) wr)
  case atStart => exact ⟨0, by omega, rfl, hK0⟩
  case round =>
    clear hK0
    obtain ⟨m, hm, rfl, hK⟩ := hrel
    obtain ⟨x0, x1, x2⟩ := HX.out.1 _ hK.bel
    obtain ⟨y0, y1, y2, y3⟩ := HX.out.2 _ hK.bel
    have f3 : (f : Int) ≤ 3 := by omega
    by_cases hlt : m < N
    · have m0 : (m : Int) ≤ 3 * (f : Int) := by omega
      have m1 : (m : Int) ≤ 9 := by omega
      have hF := fails_any s f m (by omega) wr
      have hBw := hb0.trans (hK.bel.mono hb0.size)
      cases hfb : failB s f m
      · rw [hfb] at hF
        have hSl := hH.below hBw (Nat.le_refl _)
        have hTT : fillT lH lO s f m = lH := by unfold fillT; rw [hfb]; rfl
        by_cases hml : m < lH.length
        · obtain ⟨tx, htx⟩ : ∃ t, lH[m]? = some t := ⟨_, List.getElem?_eq_getElem hml⟩
          obtain ⟨tb, tof, rfl, htb, z0⟩ := hSl.at htx
          obtain ⟨b5, e5, hR⟩ := fillV_vote hq (by omega : m ≤ 3 * f) (by rw [hTT]; exact htx : (fillT lH lO s f m)[m]? = some tx)
          have hV : ∀ W, Below wr.heap.size wr W → Calls Try.prog 11 #[.pointer (some ⟨B, 0, none⟩), .int .i64 ((q : Int) + 1), .int .i64 m, .string (bs tx), .string (bs tag16)] W fun e W' => e = .returned (.tuple #[.bool b5, .int .i64 e5]) ∧ Kp W0 B gr f p (fillV q lH lO s f (m + 1)) W' := fun W hW => by
            have hKW := hK.next hW
            refine (Vote_any hKW.slot ((q : Int) + 1) m tx tag16 b5 e5 _ hR).mono ?_
            rintro e W' ⟨rfl, h2, hm2⟩
            exact ⟨rfl, hKW.moved h2 hm2⟩
          have hml2 : (m : Int) < (lH.length : Int) := by omega
          have hm00 : (0 : Int) ≤ (m : Int) := by omega
          have hbd := below_drew (Below.refl wr.heap.size wr)
          clear hR hSl hTT htx hfb hK
          go_upto_region 11 with (first
            | (go_at_call 29; refine hF.mono ?_; rintro e w2 ⟨rfl, h9⟩; replace h9 := h9.symm; subst h9))
          go_region_with (first
            | (go_at_call 23; refine (tag_any _).mono ?_; rintro e w3 ⟨rfl, h9⟩; replace h9 := h9.symm; subst h9)
            | (go_at_call 11; refine (hV _ hbd).mono ?_; rintro e w4 ⟨rfl, hK4⟩))
          all_goals
            go_wp2_with fail
            go_roundg (N - (m + 1))
            case measure => omega
            case rel => exact ⟨m + 1, by omega, by go_num, hK4⟩
        · have HV : Hid (fillV q lH lO s f (m + 1) = fillV q lH lO s f m) := fillV_none (by rw [hTT, List.getElem?_eq_none (by omega)]; rfl)
          have hml2 : (lH.length : Int) ≤ (m : Int) := by omega
          clear hSl hTT hfb
          go_wp2_with (first
            | (go_at_call 29; refine hF.mono ?_; rintro e w2 ⟨rfl, h9⟩; replace h9 := h9.symm; subst h9))
          go_roundg (N - (m + 1))
          case measure => omega
          case rel => exact ⟨m + 1, by omega, by go_num, by rw [HV.out]; exact hK⟩
      · rw [hfb] at hF
        have hSl := hO.below hBw (Nat.le_refl _)
        have hTT : fillT lH lO s f m = lO := by unfold fillT; rw [hfb]; rfl
        by_cases hml : m < lO.length
        · obtain ⟨tx, htx⟩ : ∃ t, lO[m]? = some t := ⟨_, List.getElem?_eq_getElem hml⟩
          obtain ⟨tb, tof, rfl, htb, z0⟩ := hSl.at htx
          obtain ⟨b5, e5, hR⟩ := fillV_vote hq (by omega : m ≤ 3 * f) (by rw [hTT]; exact htx : (fillT lH lO s f m)[m]? = some tx)
          have hV : ∀ W, Below wr.heap.size wr W → Calls Try.prog 11 #[.pointer (some ⟨B, 0, none⟩), .int .i64 ((q : Int) + 1), .int .i64 m, .string (bs tx), .string (bs tag16)] W fun e W' => e = .returned (.tuple #[.bool b5, .int .i64 e5]) ∧ Kp W0 B gr f p (fillV q lH lO s f (m + 1)) W' := fun W hW => by
            have hKW := hK.next hW
            refine (Vote_any hKW.slot ((q : Int) + 1) m tx tag16 b5 e5 _ hR).mono ?_
            rintro e W' ⟨rfl, h2, hm2⟩
            exact ⟨rfl, hKW.moved h2 hm2⟩
          have hml2 : (m : Int) < (lO.length : Int) := by omega
          have hm00 : (0 : Int) ≤ (m : Int) := by omega
          have hbd := below_drew (Below.refl wr.heap.size wr)
          clear hR hSl hTT htx hfb hK
          go_upto_region 11 with (first
            | (go_at_call 29; refine hF.mono ?_; rintro e w2 ⟨rfl, h9⟩; replace h9 := h9.symm; subst h9))
          go_region_with (first
            | (go_at_call 23; refine (tag_any _).mono ?_; rintro e w3 ⟨rfl, h9⟩; replace h9 := h9.symm; subst h9)
            | (go_at_call 11; refine (hV _ hbd).mono ?_; rintro e w4 ⟨rfl, hK4⟩))
          all_goals
            go_wp2_with fail
            go_roundg (N - (m + 1))
            case measure => omega
            case rel => exact ⟨m + 1, by omega, by go_num, hK4⟩
        · have HV : Hid (fillV q lH lO s f (m + 1) = fillV q lH lO s f m) := fillV_none (by rw [hTT, List.getElem?_eq_none (by omega)]; rfl)
          have hml2 : (lO.length : Int) ≤ (m : Int) := by omega
          clear hSl hTT hfb
          go_wp2_with (first
            | (go_at_call 29; refine hF.mono ?_; rintro e w2 ⟨rfl, h9⟩; replace h9 := h9.symm; subst h9))
          go_roundg (N - (m + 1))
          case measure => omega
          case rel => exact ⟨m + 1, by omega, by go_num, by rw [HV.out]; exact hK⟩
    · have hmN : m = N := by omega
      subst hmN
      have m0 : 3 * (f : Int) < (m : Int) := by omega
      go_wp2
      go_ret
      exact ⟨B, rfl, hBs, hK.slot, hb0.trans (hK.bel.mono hb0.size)⟩
end Go.Proofs.Ytoehmpcfmpkbnaa
