/- Who fails: bits of a set, as the law MarkOne counts them. -/
import Derived.Test.YtmggfkhfiggloaaDoorMkI
namespace Go.Proofs.YtmggfkhfiggloaaDoor
open Go.RowKit
attribute [local go_sem ↓] Go.wp_at_zero Go.wp_at_succ

theorem wrap_small (n : Int) (h0 : 0 ≤ n) (h1 : n ≤ 1) : IntKind.i64.wrap n = n := by
  have : n = 0 ∨ n = 1 := by omega
  rcases this with rfl | rfl <;> decide
theorem ofInt_par (x : Int) : ((BitVec.ofInt 64 x).toNat : Int) % 2 = x % 2 := by
  rw [BitVec.toNat_ofInt]; omega
theorem and_one (x : Int) : bits .and .i64 x 1 = x % 2 := by
  have h : ((BitVec.ofInt 64 x) &&& (BitVec.ofInt 64 1)).toNat = (BitVec.ofInt 64 x).toNat % 2 := by
    rw [BitVec.toNat_and, show (BitVec.ofInt 64 1).toNat = 1 from by decide, Nat.and_one_is_mod]
  show IntKind.i64.wrap (((BitVec.ofInt 64 x) &&& (BitVec.ofInt 64 1)).toNat : Int) = _
  rw [h]
  have := ofInt_par x
  rw [wrap_small _ (by omega) (by omega)]
  omega
/-- A bit. -/
def bitN (s : Int) (k : Nat) : Nat := (s / 2 ^ k % 2).toNat
theorem bitN_le (s : Int) (k : Nat) : bitN s k ≤ 1 := by unfold bitN; omega
theorem bitN_is (s : Int) (k : Nat) : bits .and .i64 (s / 2 ^ k) 1 = (bitN s k : Int) := by
  rw [and_one]; unfold bitN; omega
def cntB (s : Int) : Nat → Nat
  | 0 => 0
  | k + 1 => cntB s k + bitN s k
theorem cntB_le (s : Int) (k : Nat) : cntB s k ≤ k := by
  induction k with
  | zero => simp [cntB]
  | succ k ih => have := bitN_le s k; simp only [cntB]; omega
/-- Does it fail? -/
def failB (s : Int) (f i : Nat) : Bool := decide (bitN s i = 1) && decide (cntB s (i + 1) ≤ f)
/-- How many of the first ones are so. -/
def nP (c : Nat → Bool) : Nat → Nat
  | 0 => 0
  | m + 1 => nP c m + if c m = true then 1 else 0
theorem fail_few (s : Int) (f m : Nat) : nP (failB s f) m ≤ cntB s m ∧ nP (failB s f) m ≤ f := by
  induction m with
  | zero => simp [nP, cntB]
  | succ m ih =>
    simp only [nP, cntB]
    split
    · rename_i h
      have h1 : bitN s m = 1 ∧ cntB s (m + 1) ≤ f := by simpa [failB] using h
      simp only [cntB] at h1
      omega
    · omega
theorem pair_few {a b c : Nat → Bool} (h : ∀ i, a i = true → b i = true → c i = true) (m : Nat) : nP a m + nP b m ≤ m + nP c m := by
  induction m with
  | zero => simp [nP]
  | succ m ih =>
    simp only [nP]
    have := h m
    cases ha : a m <;> cases hb : b m <;> cases hc : c m <;> simp_all <;> omega
theorem tagsTo_len (V : Nat → Vt) (n : Int) (t : List UInt8) (m : Nat) : (tagsTo V n t m).length = nP (fun i => hasS (V i) n t) m := by
  induction m with
  | zero => rfl
  | succ m ih =>
    simp only [tagsTo, nP, List.length_append, ih]
    split <;> simp
theorem nP_mono {a b : Nat → Bool} (h : ∀ i, a i = true → b i = true) (m : Nat) : nP a m ≤ nP b m := by
  induction m with
  | zero => simp [nP]
  | succ m ih =>
    simp only [nP]
    have := h m
    cases ha : a m <;> cases hb : b m <;> simp_all <;> omega
/-- What holds of marks of which all that do as told told H of number 4. -/
structure InvO (H : List UInt8) (bad : Nat → Bool) (s : St) : Prop where
  n : s.n = 0 ∨ (s.n = 4 ∧ s.s = H)
  v : ∀ i, (s.V i).1 = 0 ∨ ((s.V i).1 = 4 ∧ ((s.V i).2.1 = H ∨ bad i = true))
theorem invO_0 (H : List UInt8) (bad : Nat → Bool) : InvO H bad st0 := ⟨.inl rfl, fun _ => .inl rfl⟩
theorem InvO.vote {H : List UInt8} {bad : Nat → Bool} {s s' : St} {f i : Nat} {x tg : List UInt8} {b : Bool} {E : Int} (h : InvO H bad s) (hf : nP bad 10 ≤ f) (hx : x = H ∨ bad i = true) (hR : voteR 1 f s i 4 x tg = (b, E, s')) : InvO H bad s' := by
  unfold voteR at hR
  rw [Int.toNat_natCast] at hR
  have hv : ∀ k, ((updV s.V i (4, x, tg)) k).1 = 0 ∨ (((updV s.V i (4, x, tg)) k).1 = 4 ∧ (((updV s.V i (4, x, tg)) k).2.1 = H ∨ bad k = true)) := by
    intro k
    unfold updV
    split
    · rename_i e; subst e; exact .inr ⟨rfl, hx⟩
    · exact h.v k
  split at hR
  · simp only [Prod.mk.injEq] at hR
    obtain ⟨_, _, rfl⟩ := hR
    exact h
  · split at hR
    · simp only [Prod.mk.injEq] at hR
      obtain ⟨_, _, rfl⟩ := hR
      exact h
    · split at hR
      · simp only [Prod.mk.injEq] at hR
        obtain ⟨_, _, rfl⟩ := hR
        exact h
      · split at hR
        · simp only [Prod.mk.injEq] at hR
          obtain ⟨_, _, rfl⟩ := hR
          exact ⟨h.n, hv⟩
        · rename_i hn
          simp only [Prod.mk.injEq] at hR
          obtain ⟨_, _, rfl⟩ := hR
          refine ⟨.inr ⟨rfl, ?_⟩, hv⟩
          show x = H
          by_cases hxH : x = H
          · exact hxH
          · exfalso
            apply hn
            right
            rw [tagsTo_len]
            have := nP_mono (a := fun k => hasS ((updV s.V i (4, x, tg)) k) 4 x) (b := bad) (fun k hk => by
              have hk2 : ((updV s.V i (4, x, tg)) k).1 = 4 ∧ ((updV s.V i (4, x, tg)) k).2.1 = x := by simpa [hasS] using hk
              rcases hv k with h0 | ⟨_, h1 | h1⟩
              · rw [hk2.1] at h0; cases h0
              · rw [hk2.2] at h1; exact absurd h1 hxH
              · exact h1) 10
            omega
set_option maxHeartbeats 2000000 in
theorem fails_any (s : Int) (f i : Nat) (hi : i ≤ 9) (w : World) : Calls Tryd.prog 24 #[.int .i64 s, .int .i64 f, .int .i64 i] w fun e W' => e = .returned (.bool (failB s f i)) ∧ W' = w := by
  go_enter Tryd.func24, Tryd.ntmps24
  go_wp2
  go_loopg [7, 8] (i + 1) (fun gk n k wr => ∃ j : Nat, j + gk = i + 1 ∧ k = .int .i64 j ∧ n = .int .i64 (cntB s j) ∧ wr = w)
  case atStart => exact ⟨0, by omega, rfl, rfl, rfl⟩
  case round =>
    obtain ⟨j, hj, rfl, rfl, rfl⟩ := hrel
    by_cases hlt : j ≤ i
    · have hb := bitN_is s j
      have hb1 := bitN_le s j
      have hc := cntB_le s j
      have HS : Hid (cntB s (j + 1) = cntB s j + bitN s j) := rfl
      obtain ⟨b, hbe⟩ : ∃ b, bitN s j = b := ⟨_, rfl⟩
      obtain ⟨c, hce⟩ : ∃ c, cntB s j = c := ⟨_, rfl⟩
      rw [hbe] at hb hb1 HS
      rw [hce] at HS hc ⊢
      have m0 : (j : Int) ≤ (i : Int) := by omega
      have m1 : (j : Int) ≤ 9 := by omega
      have m2 : (c : Int) ≤ 9 := by omega
      have m3 : (b : Int) ≤ 1 := by omega
      clear hbe hce
      go_wp2
      go_roundg (i + 1 - (j + 1))
      case measure => omega
      case rel => exact ⟨j + 1, by omega, by go_num, by rw [HS.out]; go_num, rfl⟩
    · have hji : j = i + 1 := by omega
      subst hji
      have hb := bitN_is s i
      have hb1 := bitN_le s i
      have m0 : (i : Int) ≤ 9 := by omega
      have hc := cntB_le s (i + 1)
      have hcs : (bitN s i = 0 ∧ failB s f i = false) ∨ (bitN s i = 1 ∧ cntB s (i + 1) ≤ f ∧ failB s f i = true) ∨ (bitN s i = 1 ∧ f < cntB s (i + 1) ∧ failB s f i = false) := by
        unfold failB
        by_cases h0 : bitN s i = 0
        · left; simp [h0]
        · have h1 : bitN s i = 1 := by omega
          by_cases h2 : cntB s (i + 1) ≤ f
          · right; left; simp [h1, h2]
          · right; right; exact ⟨h1, by omega, by simp [h2]⟩
      obtain ⟨c, hce⟩ : ∃ c, cntB s (i + 1) = c := ⟨_, rfl⟩
      obtain ⟨F, hFe⟩ : ∃ F, failB s f i = F := ⟨_, rfl⟩
      have HF : Hid (failB s f i = F) := hFe
      rw [hce, hFe] at hcs
      rw [hce] at hc ⊢
      clear hce hFe
      rcases hcs with ⟨h0, rfl⟩ | ⟨h0, h1, rfl⟩ | ⟨h0, h1, rfl⟩
      all_goals
        rw [h0] at hb
        try have h2 : (c : Int) ≤ (f : Int) := by omega
        try have h3 : (f : Int) < (c : Int) := by omega
        go_wp2
        go_ret
        exact ⟨by rw [HF.out]; first | rfl | (simp; done) | (simp; omega), rfl⟩
end Go.Proofs.YtmggfkhfiggloaaDoor
