/- Is a change more than is gone through? -/
import Derived.Test.YtifalaigfinciaaGreatDoorShI
namespace Go.Proofs.YtifalaigfinciaaGreatDoor
open Go.RowKit
attribute [local go_sem ↓] Go.wp_at_zero Go.wp_at_succ

def sumT (l : List Bv) : Nat := (l.map fun b => b.t.length).sum
def bigB (b : Bv) : Bool := decide (30 < b.tn) || decide (31000 < b.t.length)
def largeL (mn : Nat) (mt : List UInt8) (bl : List Bv) : Bool := decide (20 < bl.length) || (decide (30 < mn) || (decide (31000 < mt.length) || (bl.any bigB || decide (100000 < sumT bl))))
theorem sumT_take {bl : List Bv} {k : Nat} {b : Bv} (h : bl[k]? = some b) : sumT (bl.take (k + 1)) = sumT (bl.take k) + b.t.length := by
  unfold sumT
  rw [List.take_add_one, h]
  simp
theorem largeL_false {mn : Nat} {mt : List UInt8} {bl : List Bv} (h : largeL mn mt bl = false) : bl.length ≤ 20 ∧ mn ≤ 30 ∧ mt.length ≤ 31000 ∧ (∀ b ∈ bl, b.tn ≤ 30 ∧ b.t.length ≤ 31000) ∧ sumT bl ≤ 100000 := by
  simp only [largeL, Bool.or_eq_false_iff, decide_eq_false_iff_not, List.any_eq_false, bigB, Bool.or_eq_true, decide_eq_true_eq] at h
  refine ⟨by omega, by omega, by omega, fun b hb => ?_, by omega⟩
  have := h.2.2.2.1 b hb
  omega
theorem any_take {bl : List Bv} {k : Nat} {b : Bv} (h : bl[k]? = some b) (hb : bigB b = true) : bl.any bigB = true := List.any_eq_true.2 ⟨b, List.mem_of_getElem? h, hb⟩

set_option maxRecDepth 20000 in
set_option maxHeartbeats 2000000 in
theorem large_any (c : Cv) (w : World) (hb : Bl w.heap.size w c.bv c.bl) :
    Calls Tryz.prog 4 #[.agg #[.int .i64 c.v, .int .i64 c.low, .string (bs c.mt), .int .i64 c.mg, .slice c.ma c.mn c.mc, c.bv]] w fun e W' => e = .returned (.bool (largeL c.mn c.mt c.bl)) ∧ Below w.heap.size w W' := by
  obtain ⟨cv, clow, cmt, cmg, cma, cmn, cmc, cbv, cbl⟩ := c
  simp only at hb ⊢
  obtain ⟨ba, bc, rfl⟩ := hb.slice
  have hba := (Below.refl w.heap.size w).alloc (Nat.le_refl _) (.cells #[.int .i64 cv, .int .i64 clow, .string (bs cmt), .int .i64 cmg, .slice cma cmn cmc, .slice ba cbl.length bc] 27)
  have s1 : (bs cmt).size = cmt.length := bs_size _
  by_cases hout : 20 < cbl.length ∨ 30 < cmn ∨ 31000 < cmt.length
  · have hv : largeL cmn cmt cbl = true := by
      simp only [largeL, Bool.or_eq_true, decide_eq_true_eq]
      omega
    rw [hv]
    have hcs : ((20 : Int) < (cbl.length : Int)) ∨ ((cbl.length : Int) ≤ 20 ∧ (((30 : Int) < (cmn : Int)) ∨ ((cmn : Int) ≤ 30 ∧ (31000 : Int) < (cmt.length : Int)))) := by omega
    have HB : Hid (_) := hba
    clear hout hv hba hb
    rcases hcs with q1 | ⟨q1, q2 | ⟨q2, q3⟩⟩
    all_goals
      go_enter Tryz.func4, Tryz.ntmps4
      go_wp2
      exact bodyPost_ret (v := .bool true) (by simp [results, Tryz.f4, go_sem]) rfl ⟨rfl, HB.out⟩
  · have q1 : (cbl.length : Int) ≤ 20 := by omega
    have q2 : (cmn : Int) ≤ 30 := by omega
    have q3 : (cmt.length : Int) ≤ 31000 := by omega
    have hv : largeL cmn cmt cbl = (cbl.any bigB || decide (100000 < sumT cbl)) := by
      have e1 : decide (20 < cbl.length) = false := by simp; omega
      have e2 : decide (30 < cmn) = false := by simp; omega
      have e3 : decide (31000 < cmt.length) = false := by simp; omega
      simp only [largeL, e1, e2, e3, Bool.false_or]
    rw [hv]
    clear hv hout
    obtain ⟨W0, hW0⟩ : ∃ W, w.alloc (.cells #[.int .i64 cv, .int .i64 clow, .string (bs cmt), .int .i64 cmg, .slice cma cmn cmc, .slice ba cbl.length bc] 27) = W := ⟨_, rfl⟩
    have HW : Hid (w.alloc (.cells #[.int .i64 cv, .int .i64 clow, .string (bs cmt), .int .i64 cmg, .slice cma cmn cmc, .slice ba cbl.length bc] 27) = W0) := hW0
    have rP := heap_alloc_new w (.cells #[.int .i64 cv, .int .i64 clow, .string (bs cmt), .int .i64 cmg, .slice cma cmn cmc, .slice ba cbl.length bc] 27)
    rw [hW0] at hba rP
    have k2 := cellB rP 2 _ rfl
    have k4 := cellB rP 4 _ rfl
    have k5 := cellB rP 5 _ rfl
    have HBl : Hid (∀ W, Below w.heap.size w W → Bl w.heap.size W (.slice ba cbl.length bc) cbl) := fun W hW => hb.below hW (Nat.le_refl _)
    clear hW0 rP hb
    go_enter Tryz.func4, Tryz.ntmps4
    go_upto_region 1 with fail
    rw [HW.out]
    clear HW
    go_wp2
    go_loopg [3, 27] cbl.length (fun gk p q wr => ∃ k : Nat, k + gk = cbl.length ∧ q = .int .i64 k ∧ p = .int .i64 (sumT (cbl.take k)) ∧ Hid (∀ b ∈ cbl.take k, bigB b = false) ∧ sumT (cbl.take k) ≤ 31000 * k ∧ Below w.heap.size w wr)
    case atStart => exact ⟨0, by omega, rfl, rfl, (fun b hb => by simp at hb), by simp [sumT], hba⟩
    case round =>
      obtain ⟨k, hk, rfl, rfl, HS, hsm, hB⟩ := hrel
      by_cases hkl : k < cbl.length
      · obtain ⟨x, hx⟩ : ∃ x, cbl[k]? = some x := ⟨_, List.getElem?_eq_getElem hkl⟩
        obtain ⟨vb, vo, rfl, hvl, d0, d1, d2, d3, d4⟩ := (HBl.out _ hB).cells hx
        have hst := sumT_take hx
        have hany := any_take hx
        have htk : cbl.take (k + 1) = cbl.take k ++ [x] := by rw [List.take_add_one, hx]; rfl
        obtain ⟨xn, xv, xt, xg, xa, xtn, xtc⟩ := x
        simp only at d0 d1 d2 d3 d4 hst
        have s2 : (bs xt).size = xt.length := bs_size _
        have hB1 : Below w.heap.size w (wr.alloc (.cells #[.int .i64 xn, .int .i64 xv, .string (bs xt), .int .i64 xg, .slice xa xtn xtc] 34)) := hB.alloc hB.size _
        have HB1 : Hid (_) := hB1
        obtain ⟨S, hS⟩ : ∃ S, sumT (cbl.take k) = S := ⟨_, rfl⟩
        rw [hS] at hst hsm ⊢
        have m1 : (S : Int) ≤ 31000 * 20 := by omega
        have HST : Hid (_) := hst
        have hk20 : (k : Int) < 20 := by omega
        have HA : Hid (bigB ⟨xn, xv, xt, xg, xa, xtn, xtc⟩ = true → cbl.any bigB = true) := hany
        clear hst hany hB1 hx hB
        by_cases hbig : 30 < xtn ∨ 31000 < xt.length
        · have hval : (cbl.any bigB || decide (100000 < sumT cbl)) = true := by
            rw [HA.out (by simp only [bigB, Bool.or_eq_true, decide_eq_true_eq]; exact hbig)]; rfl
          have hcs : ((30 : Int) < (xtn : Int)) ∨ ((xtn : Int) ≤ 30 ∧ (31000 : Int) < (xt.length : Int)) := by omega
          have HV : Hid (_) := hval
          clear hval hbig htk HBl HS
          rcases hcs with p1 | ⟨p1, p2⟩
          all_goals
            go_wp2
            exact bodyPost_ret (v := .bool true) (by simp [results, Tryz.f4, go_sem]) rfl ⟨by rw [HV.out], HB1.out⟩
        · have p1 : (xtn : Int) ≤ 30 := by omega
          have p2 : (xt.length : Int) ≤ 31000 := by omega
          have HN : Hid (_) := hbig
          have HT : Hid (_) := htk
          clear hbig htk
          go_wp2
          go_roundg (cbl.length - (k + 1))
          case measure => omega
          case rel =>
            refine ⟨k + 1, by omega, by go_num, by rw [HST.out]; go_num, (fun b hb => ?_), by rw [HST.out]; omega, HB1.out⟩
            rw [HT.out] at hb
            rcases List.mem_append.1 hb with h | h
            · exact HS.out b h
            · rw [List.mem_singleton.1 h]
              have := HN.out
              simp only [bigB, Bool.or_eq_false_iff, decide_eq_false_iff_not]
              omega
      · have hkn : k = cbl.length := by omega
        subst hkn
        rw [List.take_length] at HS hsm ⊢
        have hval : (cbl.any bigB || decide (100000 < sumT cbl)) = decide ((100000 : Int) < (sumT cbl : Int)) := by
          have e1 : cbl.any bigB = false := List.any_eq_false.2 fun b hb => by rw [HS.out b hb]; simp
          rw [e1, Bool.false_or]
          by_cases h : 100000 < sumT cbl
          · rw [decide_eq_true h, decide_eq_true (by omega)]
          · rw [decide_eq_false h, decide_eq_false (by omega)]
        have HV : Hid (_) := hval
        obtain ⟨S, hS⟩ : ∃ S, sumT cbl = S := ⟨_, rfl⟩
        rw [hS]
        clear hval
        go_wp2
        refine bodyPost_ret (v := .bool (decide ((100000 : Int) < (S : Int)))) (by simp [results, Tryz.f4, go_sem]) rfl ⟨by rw [HV.out, hS], hB⟩
end Go.Proofs.YtifalaigfinciaaGreatDoor
