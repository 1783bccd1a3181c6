/- Chains: slices.IndexFunc, slices.DeleteFunc, walked. -/
import Derived.Test.YtcehmaegnfelhaaChJ
namespace Go.Proofs.Ytcehmaegnfelhaa
open Go.RowKit
attribute [local go_sem ↓] Go.wp_at_zero Go.wp_at_succ

theorem clo37 (v x : Int) (P : Nat) (w : World) (hc : w.cell? ⟨P, 1, none⟩ = some (.int .i64 x)) : Calls Try.prog 44 #[.int .i64 v, .pointer (some ⟨P, 0, none⟩)] w fun e W' => e = .returned (.bool (v == x)) ∧ W' = w := by
  go_enter Try.func44, Try.ntmps44
  go_wp2
  go_ret
  exact ⟨rfl, rfl⟩
set_option maxRecDepth 20000 in
set_option maxHeartbeats 1000000 in
theorem IndexFunc_any (ns : List Int) (x : Int) (P g cap : Nat) (w : World) (hS : Sc w g ns) (hc : w.cell? ⟨P, 1, none⟩ = some (.int .i64 x)) (hl : ns.length ≤ 1000) :
    Calls Try.prog 51 #[.slice (some ⟨g, 0, none⟩) ns.length cap, .func (.func 44) #[] #[.pointer (some ⟨P, 0, none⟩)]] w fun e W' => e = .returned (.int .i64 (idxI ns x)) ∧ W' = w := by
  go_enter Try.func51, Try.ntmps51
  go_wp2_with fail
  go_loopg [8] ns.length (fun gk i wr => ∃ k : Nat, k + gk = ns.length ∧ i = .int .i64 k ∧ wr = w ∧ ∀ i t, i < k → ns[i]? = some t → x ≠ t)
  case atStart => exact ⟨0, by omega, rfl, rfl, fun i t hi => by omega⟩
  case round =>
    obtain ⟨k, hk, rfl, rfl, hno⟩ := hrel
    have hd := idxI_drop ns x k hno
    by_cases hlt : k < ns.length
    · obtain ⟨n, hn⟩ : ∃ n, ns[k]? = some n := ⟨_, List.getElem?_eq_getElem hlt⟩
      have x1 := hS.cell hn
      have k0 : (0 : Int) ≤ (k : Int) := by omega
      have k1 : (k : Int) < (ns.length : Int) := by omega
      have hnx : Hid (∀ i t, i < k + 1 → ns[i]? = some t → x ≠ n → x ≠ t) := by
        intro i t hi ht hxn
        by_cases e : i = k
        · subst e; rw [hn] at ht; cases ht; exact hxn
        · exact hno i t (by omega) ht
      have HD : Hid (x = n → idxI ns x = k) := fun e => hd.1 (by rw [e]; exact hn)
      have hC := clo37 n x P _ hc
      clear hn hno hd hS
      by_cases hx : x = n
      · rw [show (n == x) = true by simp [hx]] at hC
        have HD2 : Hid (idxI ns x = k) := HD.out hx
        clear HD hx hnx
        go_wp2_with (first | (go_at_call 44; refine hC.mono ?_; rintro e w1 ⟨rfl, h9⟩; subst w1))
        go_ret
        exact ⟨by rw [HD2.out]; rfl, rfl⟩
      · rw [show (n == x) = false by simp; exact fun h => hx h.symm] at hC
        have HX : Hid (x ≠ n) := hx
        clear hx
        go_wp2_with (first | (go_at_call 44; refine hC.mono ?_; rintro e w1 ⟨rfl, h9⟩; subst w1))
        go_roundg (ns.length - (k + 1))
        case measure => omega
        case rel => exact ⟨k + 1, by omega, by go_num, rfl, fun i t hi ht => hnx.out i t hi ht HX.out⟩
    · have hkl : k = ns.length := by omega
      have HD : Hid (idxI ns x = -1) := hd.2 (by omega)
      clear hd hno
      subst hkl
      go_wp2
      go_ret
      exact ⟨by rw [HD.out]; rfl, rfl⟩
/-- What is left moves up. -/
def dlJ (x : Int) : Nat → Nat → Nat → List Int → Nat × List Int
  | 0, i, _, L => (i, L)
  | f + 1, i, j, L => if L.getD j 0 = x then dlJ x f i (j + 1) L else dlJ x f (i + 1) (j + 1) (L.set i (L.getD j 0))
theorem run_clear_int (w : World) (ty : TypeId) (b o c : Nat) (hc : (w.cell? ⟨b, o, none⟩).isSome = true) (hf : w.frozen? ⟨b, o, none⟩ = false) :
    (Builtin.clear_ #[25] ty #[.slice (some ⟨b, o, none⟩) 1 c]).run Try.prog w = .ok (.tuple #[]) (w.setCells b o [.int .i64 0]) := by
  have hst := run_storeCells_cells (P := Try.prog) b o [.int .i64 0] 0 w (by simpa using hc) (by simpa using hf) (by intro v hv; simp at hv; rcases hv with rfl; rfl)
  simp only [Nat.add_zero] at hst
  have hz : (Builtin.zeroCells (Value.int .i64 0).cells 1).toList = [.int .i64 0] := by kernel_rfl
  simp [Builtin.clear_, run_underlying Try.underlying25, Try.zeroValue3, hz, hst]
theorem Sc.take {w : World} {g : Nat} {L : List Int} (h : Sc w g L) (n : Nat) : Sc w g (L.take n) := by
  obtain ⟨cur, h1, h2⟩ := h
  refine ⟨cur, h1, fun i t ht => h2 i t ?_⟩
  rw [List.getElem?_take] at ht
  split at ht
  · exact ht
  · cases ht
set_option maxRecDepth 20000 in
set_option maxHeartbeats 4000000 in
theorem DeleteFunc_any (L Lf : List Int) (x : Int) (i0 fi P g cap B : Nat) (w : World) (hS : Sc w g L) (hc : w.cell? ⟨P, 1, none⟩ = some (.int .i64 x)) (hl : L.length ≤ 1000) (hcap : L.length ≤ cap) (hPg : P ≠ g) (hg : B ≤ g)
    (hi0 : idxI L x = i0) (hlt : i0 < L.length) (hfin : dlJ x (L.length - (i0 + 1)) i0 (i0 + 1) L = (fi, Lf)) (hfi : fi + 1 = L.length) :
    Calls Try.prog 43 #[.slice (some ⟨g, 0, none⟩) L.length cap, .func (.func 44) #[] #[.pointer (some ⟨P, 0, none⟩)]] w fun e W' => e = .returned (.slice (some ⟨g, 0, none⟩) fi cap) ∧ Sc W' g (Lf.take fi) ∧ Onl B g w W' := by
  have hX := IndexFunc_any L x P g cap w hS hc hl
  rw [hi0] at hX
  obtain ⟨n, hn⟩ : ∃ n, L.length = n := ⟨_, rfl⟩
  rw [hn] at hX hl hlt hfin hfi hcap ⊢
  have HS0 : Hid (Sc w g L ∧ L.length = n ∧ dlJ x (n - (i0 + 1)) i0 (i0 + 1) L = (fi, Lf) ∧ w.cell? ⟨P, 1, none⟩ = some (.int .i64 x)) := ⟨hS, hn, hfin, hc⟩
  have q1 : ((i0 : Int) == -1) = false := by rw [beq_eq_false_iff_ne]; omega
  clear hS hn hfin hc hi0
  go_enter Try.func43, Try.ntmps43
  go_upto_region 4 with (go_at_call 51; refine hX.mono ?_; rintro e w1 ⟨rfl, h9⟩; subst w1)
  clear hX q1
  go_wp2_with fail
  go_loopg [5, 6] (n - (i0 + 1)) (fun gk iv jv wr => ∃ (i j : Nat) (Lc : List Int), iv = .int .i64 i ∧ jv = .int .i64 j ∧ j + gk = n ∧ i < j ∧ Hid (dlJ x gk i j Lc = (fi, Lf)) ∧ Lc.length = n ∧ Hid (Sc wr g Lc) ∧ wr.cell? ⟨P, 1, none⟩ = some (.int .i64 x) ∧ Onl B g w wr)
  case atStart =>
    obtain ⟨a, b, c, d⟩ := HS0.out
    exact ⟨i0, i0 + 1, L, rfl, rfl, by omega, by omega, c, b, a, d, Onl.refl _ _ _⟩
  case round =>
    obtain ⟨i, j, Lc, rfl, rfl, hjn, hij, HD, hlc, HS, hcx, hB⟩ := hrel
    clear HS0
    cases gk with
    | zero =>
      have hdd := HD.out
      simp only [dlJ] at hdd
      injection hdd with e1 e2
      have hjn' : j = n := by omega
      obtain ⟨t, ht⟩ : ∃ t, Lc[i]? = some t := ⟨_, List.getElem?_eq_getElem (by omega)⟩
      have y1 := HS.out.cell ht
      have y2 := HS.out.frozen i
      have hcl := fun ty c => run_clear_int wr ty g i c (by rw [y1]; rfl) y2
      have e9 : n - i = 1 := by omega
      have HF : Hid (Sc (wr.setCells g i [.int .i64 0]) g (Lf.take fi)) := by
        show Sc _ _ _
        have h9 := (HS.out.set i 0).take i
        rw [← e1, ← e2]
        have : (Lc.set i 0).take i = Lc.take i := by
          rw [List.take_set_of_le (by omega)]
        rw [this] at h9
        exact h9
      have HB9 : Hid (Onl B g w (wr.setCells g i [.int .i64 0])) := hB.setCells hg _ _
      have hi1 : (i : Int) ≤ (n : Int) := by omega
      have hi2 : (i : Int) ≤ (cap : Int) := by omega
      have hi3 : i ≤ n := by omega
      have hi4 : ¬ cap = i := by omega
      have hi5 : (0 : Int) ≤ (i : Int) := by omega
      subst hjn'
      subst e1
      clear HD e2 ht y1 y2 HS hlc hcx hB
      go_wp2_with fail
      go_ret
      exact ⟨rfl, HF.out, HB9.out⟩
    | succ f =>
      obtain ⟨t, ht⟩ : ∃ t, Lc[j]? = some t := ⟨_, List.getElem?_eq_getElem (by omega)⟩
      have gt : Lc.getD j 0 = t := by rw [List.getD_eq_getElem?_getD, ht]; rfl
      obtain ⟨u, hu⟩ : ∃ u, Lc[i]? = some u := ⟨_, List.getElem?_eq_getElem (by omega)⟩
      have x1 := HS.out.cell ht
      have y1 := HS.out.cell hu
      have y2 := HS.out.frozen i
      have HE : Hid ((if t = x then dlJ x f i (j + 1) Lc else dlJ x f (i + 1) (j + 1) (Lc.set i t)) = (fi, Lf)) := by
        have := HD.out
        rw [dlJ, gt] at this
        exact this
      have hC := clo37 t x P _ hcx
      have j0 : (0 : Int) ≤ (j : Int) := by omega
      have j1 : (j : Int) < (n : Int) := by omega
      have i0' : (0 : Int) ≤ (i : Int) := by omega
      have i1' : (i : Int) < (n : Int) := by omega
      have HCX : Hid (wr.cell? ⟨P, 1, none⟩ = some (.int .i64 x)) := hcx
      clear gt ht hu HD hcx
      by_cases hx : t = x
      · rw [show (t == x) = true by simp [hx]] at hC
        have HE2 : Hid (dlJ x f i (j + 1) Lc = (fi, Lf)) := by have := HE.out; rw [if_pos hx] at this; exact this
        clear HE hx
        go_wp2_with (first | (go_at_call 44; refine hC.mono ?_; rintro e w1 ⟨rfl, h9⟩; subst w1))
        go_roundg f
        case measure => omega
        case rel => exact ⟨i, j + 1, Lc, rfl, by go_num, by omega, by omega, HE2, hlc, HS, HCX.out, hB⟩
      · rw [show (t == x) = false by simp [hx]] at hC
        have HE2 : Hid (dlJ x f (i + 1) (j + 1) (Lc.set i t) = (fi, Lf)) := by have := HE.out; rw [if_neg hx] at this; exact this
        have HS2 : Hid (Sc (wr.setCell ⟨g, i, none⟩ (.int .i64 t)) g (Lc.set i t)) := HS.out.set i t
        have HC2 : Hid ((wr.setCell ⟨g, i, none⟩ (.int .i64 t)).cell? ⟨P, 1, none⟩ = some (.int .i64 x)) := (World.cell?_setCell_other _ _ _ _ (by intro h; injection h with h _ _; exact hPg h.symm)).trans HCX.out
        have HB2 : Hid (Onl B g w (wr.setCell ⟨g, i, none⟩ (.int .i64 t))) := hB.setCell hg i _
        clear HE hx
        go_wp2_with (first | (go_at_call 44; refine hC.mono ?_; rintro e w1 ⟨rfl, h9⟩; subst w1))
        go_roundg f
        case measure => omega
        case rel => exact ⟨i + 1, j + 1, Lc.set i t, by go_num, by go_num, by omega, by omega, HE2, by rw [List.length_set]; exact hlc, HS2, HC2.out, HB2.out⟩
end Go.Proofs.Ytcehmaegnfelhaa
