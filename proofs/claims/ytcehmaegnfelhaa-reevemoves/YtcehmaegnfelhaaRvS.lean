/- ReeveMoves, walked. -/
import Derived.Test.YtcehmaegnfelhaaRvI
import Derived.Test.YtcehmaegnfelhaaRvN
import Derived.Test.YtcehmaegnfelhaaRvQ
import Derived.Test.YtcehmaegnfelhaaRvR
import Derived.Test.YtcehmaegnfelhaaRvT
namespace Go.Proofs.Ytcehmaegnfelhaa
open Go.RowKit
attribute [local go_sem ↓] Go.wp_at_zero Go.wp_at_succ

/-- What two answers have in common. -/
def Pair (u1 u2 : Value) (E : Int) (e1 e2 : Ending) (W : World) (ns : List Int) : Prop := e1 = .returned (.tuple #[u1, .int .i64 E]) ∧ e2 = .returned (.tuple #[u2, .int .i64 E]) ∧ Il W u1 ns ∧ Il W u2 ns ∧ ns.length ≤ 1000
theorem mv_of {l : List Cg} {e : Ending} {W : World} (h : MvPost l e W) : ∃ a c, e = .returned (.tuple #[.slice a (if foB l l.length = true then l.length - 1 else 0) c, .int .i64 (if foB l l.length = true then 0 else 4)]) ∧ Il W (.slice a (if foB l l.length = true then l.length - 1 else 0) c) (if foB l l.length = true then mvS l (l.length - 1) else []) := by
  by_cases hf : foB l l.length = true
  · rw [MvPost, if_pos hf] at h
    rw [if_pos hf, if_pos hf, if_pos hf]
    obtain ⟨u, rfl, hi⟩ := h
    obtain ⟨a, c, rfl⟩ := hi.slice
    rw [mvS_len] at hi ⊢
    exact ⟨a, c, rfl, hi⟩
  · rw [MvPost, if_neg hf] at h
    rw [if_neg hf, if_neg hf, if_neg hf]
    exact ⟨none, 0, h, .inl ⟨rfl, none, 0, rfl⟩⟩
/-- What Way tells: its list. -/
def wyL (l : List Cg) (i : Int) : List Int := if i < 0 ∨ 4 ≤ i then [] else if foB l l.length = true then cpt (owS l i.toNat) else []
def wyE (l : List Cg) (i : Int) : Int := if i < 0 ∨ 4 ≤ i then 1 else if foB l l.length = true then 0 else 4
theorem wy_of {l : List Cg} {i : Int} {e : Ending} {W : World} (h : WyPost l i e W) : ∃ a c, e = .returned (.tuple #[.slice a (wyL l i).length c, .int .i64 (wyE l i)]) ∧ Il W (.slice a (wyL l i).length c) (wyL l i) := by
  unfold wyL wyE
  unfold WyPost at h
  by_cases h1 : i < 0 ∨ 4 ≤ i
  · rw [if_pos h1] at h
    rw [if_pos h1, if_pos h1]
    exact ⟨none, 0, h, .inl ⟨rfl, none, 0, rfl⟩⟩
  · rw [if_neg h1] at h
    rw [if_neg h1, if_neg h1]
    by_cases hf : foB l l.length = true
    · rw [if_pos hf] at h
      rw [if_pos hf, if_pos hf]
      obtain ⟨u, rfl, hi⟩ := h
      obtain ⟨a, c, rfl⟩ := hi.slice
      exact ⟨a, c, rfl, hi⟩
    · rw [if_neg hf] at h
      rw [if_neg hf, if_neg hf]
      exact ⟨none, 0, h, .inl ⟨rfl, none, 0, rfl⟩⟩
theorem wyL_len (l : List Cg) (i : Int) : (wyL l i).length ≤ l.length := by
  unfold wyL
  split
  · exact Nat.zero_le _
  · split
    · have h := cpN_len (owS l i.toNat) (owS l i.toNat).length
      rw [cpN_all] at h
      simpa [owS] using h
    · exact Nat.zero_le _
set_option maxRecDepth 20000 in
set_option maxHeartbeats 1500000 in
theorem rmoves_any (l : List Cg) (v : Value) (i : Int) (w : World) (hv : Cl w v l) (hlm : l.length ≤ 9223372036854775807) : Calls Try.prog 3 #[v, .int .i64 i] w fun e W' => e = .returned (.bool true) ∧ Below w.heap.size w W' := by
  obtain ⟨va, vc, rfl⟩ := hv.slice
  have hL := large_any l _ w hv hlm
  obtain ⟨N, hN⟩ : ∃ N, w.heap.size = N := ⟨_, rfl⟩
  obtain ⟨n, hn⟩ : ∃ n, l.length = n := ⟨_, rfl⟩
  rw [hN] at hL ⊢
  have HV : Hid (∀ W, Below N w W → Cl W (.slice va n vc) l) := fun W hW => by rw [← hn]; exact hv.on hW (by omega)
  have HN : Hid (w.heap.size = N ∧ l.length = n) := ⟨hN, hn⟩
  rw [hn] at hL ⊢
  clear hv hN hlm
  go_enter Try.func3, Try.ntmps3
  go_upto_if 14 with (first
    | (go_at_call 6; refine hL.mono ?_; clear hL; rintro e w1 ⟨⟨b, rfl, hb⟩, hB1⟩)
    | fail)
  cases b with
  | true =>
    go_wp2_with (first
      | (go_at_call 7; refine (two_any _).mono ?_; rintro e w9 ⟨rfl, hB9⟩)
      | fail)
    go_ret
    have h1 := hB1.size
    exact ⟨rfl, hB1.trans (hB9.mono (by have := HN.out; omega))⟩
  | false =>
  obtain ⟨hl60, hg50⟩ := hb rfl
  have hsm : ∀ (i : Nat) x, l[i]? = some x → x.gs.length ≤ 1000 := fun i x hx => by have := hg50 i x hx; omega
  have HSM : Hid ((∀ (i : Nat) x, l[i]? = some x → x.gs.length ≤ 1000) ∧ l.length ≤ 60) := ⟨hsm, by omega⟩
  have HB1 : Hid (Below N w w1 ∧ N ≤ w1.heap.size) := ⟨hB1, by have := hB1.size; have := HN.out; omega⟩
  obtain ⟨mn, hmn⟩ : ∃ k, (if foB l l.length = true then l.length - 1 else 0) = k := ⟨_, rfl⟩
  obtain ⟨mE, hmE⟩ : ∃ k : Int, (if foB l l.length = true then 0 else 4) = k := ⟨_, rfl⟩
  obtain ⟨mL, hmL⟩ : ∃ k, (if foB l l.length = true then mvS l (l.length - 1) else []) = k := ⟨_, rfl⟩
  obtain ⟨yL, hyL⟩ : ∃ k, wyL l i = k := ⟨_, rfl⟩
  obtain ⟨yE, hyE⟩ : ∃ k, wyE l i = k := ⟨_, rfl⟩
  have hmn2 : mn = mL.length := by
    rw [← hmn, ← hmL]; split
    · rw [mvS_len]
    · rfl
  have HLE : Hid (mL.length ≤ 1000 ∧ yL.length ≤ 1000) := ⟨by rw [← hmn2, ← hmn]; split <;> omega, by rw [← hyL]; have := wyL_len l i; omega⟩
  have HMV : Hid (∀ e W, MvPost l e W → ∃ a c, e = .returned (.tuple #[.slice a mL.length c, .int .i64 mE]) ∧ Il W (.slice a mL.length c) mL) := fun e W h => by
    have := mv_of h
    rw [hmn, hmE, hmL, hmn2] at this
    exact this
  have HWY : Hid (∀ e W, WyPost l i e W → ∃ a c, e = .returned (.tuple #[.slice a yL.length c, .int .i64 yE]) ∧ Il W (.slice a yL.length c) yL) := fun e W h => by
    have := wy_of h
    rw [hyL, hyE] at this
    exact this
  have hq1 := moves_any l (.slice va n vc) w1 (HV.out w1 hB1) (by omega) hsm
  clear hB1 hb hl60 hg50 hsm hmn hmE hmL hyL hyE hmn2
  go_upto_region 4 with (first
    | (go_at_call 8; refine hq1.mono ?_; clear hq1; rintro e w2 ⟨hp, hB2⟩; obtain ⟨a1, c1, rfl, hI1⟩ := HMV.out _ _ hp; clear hp)
    | fail)
  have HB2 : Hid (Below N w w2 ∧ N ≤ w2.heap.size) := ⟨HB1.out.1.trans (hB2.mono HB1.out.2), Nat.le_trans HB1.out.2 hB2.size⟩
  have HI1 : Hid (Il w2 (.slice a1 mL.length c1) mL) := hI1
  have hq2 := configs_any l (.slice va n vc) w2 (HV.out w2 HB2.out.1) HSM.out.2
  clear hB2 hI1
  go_upto_region 5 with (first
    | (go_at_call 10; refine hq2.mono ?_; clear hq2; rintro e w3 ⟨u3, rfl, hcl3, hB3⟩; have hq3 := rmvs_any l u3 w3 hcl3 (by have := HSM.out.2; omega) HSM.out.1; have HB3 : Hid (Below w2.heap.size w2 w3) := hB3; clear hB3 hcl3)
    | (go_at_call 9; refine hq3.mono ?_; clear hq3; rintro e w4 ⟨hp, hB4⟩; obtain ⟨a2, c2, rfl, hI2⟩ := HMV.out _ _ hp; clear hp)
    | fail)
  have hb24 := HB3.out.trans (hB4.mono HB3.out.size)
  have HB4 : Hid (Below N w w4 ∧ N ≤ w4.heap.size) := ⟨HB2.out.1.trans (hb24.mono HB2.out.2), Nat.le_trans HB2.out.2 hb24.size⟩
  have HI4 : Hid (Il w4 (.slice a1 mL.length c1) mL ∧ Il w4 (.slice a2 mL.length c2) mL) := ⟨HI1.out.next hb24, hI2⟩
  have hq4 := way_any l (.slice va n vc) i w4 (HV.out w4 HB4.out.1) (by have := HSM.out.2; omega) HSM.out.1
  clear hB4 hI2 hb24
  go_upto_region 6 with (first
    | (go_at_call 11; refine hq4.mono ?_; clear hq4; rintro e w5 ⟨hp, hB5⟩; obtain ⟨a3, c3, rfl, hI3⟩ := HWY.out _ _ hp; clear hp)
    | fail)
  have HB5 : Hid (Below N w w5 ∧ N ≤ w5.heap.size) := ⟨HB4.out.1.trans (hB5.mono HB4.out.2), Nat.le_trans HB4.out.2 hB5.size⟩
  have HI5 : Hid (Il w5 (.slice a1 mL.length c1) mL ∧ Il w5 (.slice a2 mL.length c2) mL ∧ Il w5 (.slice a3 yL.length c3) yL) := ⟨HI4.out.1.next hB5, HI4.out.2.next hB5, hI3⟩
  have hq5 := configs_any l (.slice va n vc) w5 (HV.out w5 HB5.out.1) HSM.out.2
  clear hB5 hI3
  go_upto_region 7 with (first
    | (go_at_call 10; refine hq5.mono ?_; clear hq5; rintro e w6 ⟨u6, rfl, hcl6, hB6⟩; have hq6 := rway_any l u6 i w6 hcl6 (by have := HSM.out.2; omega) HSM.out.1; have HB6 : Hid (Below w5.heap.size w5 w6) := hB6; clear hB6 hcl6)
    | (go_at_call 12; refine hq6.mono ?_; clear hq6; rintro e w7 ⟨hp, hB7⟩; obtain ⟨a4, c4, rfl, hI7⟩ := HWY.out _ _ hp; clear hp)
    | fail)
  have hb57 := HB6.out.trans (hB7.mono HB6.out.size)
  have HB7 : Hid (Below N w w7 ∧ N ≤ w7.heap.size) := ⟨HB5.out.1.trans (hb57.mono HB5.out.2), Nat.le_trans HB5.out.2 hb57.size⟩
  have HI7 : Hid (Il w7 (.slice a3 yL.length c3) yL ∧ Il w7 (.slice a4 yL.length c4) yL) := ⟨HI5.out.2.2.next hb57, hI7⟩
  have hq7 := Ints_any mL (.slice a1 mL.length c1) (.slice a2 mL.length c2) w7 (HI5.out.1.next hb57) (HI5.out.2.1.next hb57) HLE.out.1
  clear hB7 hI7 hb57
  go_wp2_with (first
    | (go_at_call 13; refine hq7.mono ?_; clear hq7; rintro e w8 ⟨rfl, hB8⟩; have hq8 := Ints_any yL (.slice a3 yL.length c3) (.slice a4 yL.length c4) w8 (HI7.out.1.next hB8) (HI7.out.2.next hB8) HLE.out.2; have HB8 : Hid (Below N w w8 ∧ N ≤ w8.heap.size) := ⟨HB7.out.1.trans (hB8.mono HB7.out.2), Nat.le_trans HB7.out.2 hB8.size⟩; clear hB8)
    | (go_at_call 13; refine hq8.mono ?_; clear hq8; rintro e w9 ⟨rfl, hB9⟩; have HB9 : Hid (Below N w w9 ∧ N ≤ w9.heap.size) := ⟨HB8.out.1.trans (hB9.mono HB8.out.2), Nat.le_trans HB8.out.2 hB9.size⟩; clear hB9)
    | (go_at_call 7; refine (two_any _).mono ?_; rintro e w10 ⟨rfl, hB10⟩)
    | fail)
  go_ret
  exact ⟨rfl, HB9.out.1.trans (hB10.mono HB9.out.2)⟩
end Go.Proofs.Ytcehmaegnfelhaa
