/- A nil ring checks no mark and no best order. -/
import Derived.Test.YtifalaigfinciaaGreatDoorNlD
namespace Go.Proofs.YtifalaigfinciaaGreatDoor
open Go.RowKit
attribute [local go_sem ↓] Go.wp_at_zero Go.wp_at_succ

set_option maxRecDepth 20000 in
set_option maxHeartbeats 1000000 in
theorem checkBest_nil (b : Bq) (u : Value) (w : World) (he : EnvP w) (hll : b.T.length ≤ 140737488355328) (hT : Tl w u b.T) :
    Calls Tryz.prog 12 #[.pointer none, .int .i64 1, .int .i64 1, .agg #[.int .i64 b.n, .int .i64 b.v, .string (bs b.x), .int .i64 b.g, u]] w fun e W' => ∃ E : Int, e = .returned (.int .i64 E) ∧ E ≠ 0 ∧ Below w.heap.size w W' := by
  obtain ⟨ua, uc, rfl⟩ := hT.slice
  have hb0 : Below w.heap.size w (w.alloc (.cells #[.int .i64 b.n, .int .i64 b.v, .string (bs b.x), .int .i64 b.g, .slice ua b.T.length uc] 34)) := (Below.refl _ w).alloc (Nat.le_refl _) _
  have hC := certCheck_nil b.x b.g b.T (.slice ua b.T.length uc) _ (he.next hb0) hll (hT.below hb0 (Nat.le_refl _))
  have HB : Hid (_) := hb0
  clear hb0 hT he hll
  go_enter Tryz.func12, Tryz.ntmps12
  go_upto_region 2 with (first | (go_at_call 19; refine hC.mono ?_; clear hC; rintro e w1 ⟨E, rfl, hE, h1⟩))
  have hq : (E != 0) = true := by simpa using hE
  have HE : Hid (E ≠ 0) := hE
  clear hE
  go_wp2
  exact bodyPost_ret (v := .int .i64 E) (by simp [results, Tryz.f12, go_sem]) rfl ⟨E, rfl, HE.out, HB.out.trans (h1.mono HB.out.size)⟩

theorem empty_no {x : List UInt8} (h : x ≠ []) : (bs x).toList.isEmpty = false := by
  have h1 := str_other (b := []) h
  have h0 : (bs []).toList = [] := by decide +kernel
  cases h2 : (bs x).toList with
  | nil => rw [h2, h0] at h1; simp at h1
  | cons a r => rfl
/-- Is it the mark of no number? -/
def noMark (c : Bq) : Prop := c.v = 0 ∧ c.x = [] ∧ c.g = 0 ∧ c.T = []
set_option maxRecDepth 20000 in
set_option maxHeartbeats 1000000 in
theorem checkMark_nil (c : Bq) (mu bu : Value) (w : World) (he : EnvP w) (hll : c.T.length ≤ 140737488355328) (hT : Tl w mu c.T) (hbu : ∃ a n k, bu = .slice a n k) :
    Calls Tryz.prog 11 #[.pointer none, .int .i64 1, .int .i64 1, .agg #[.int .i64 c.n, .int .i64 c.v, .string (bs c.x), .int .i64 c.g, mu, bu]] w fun e W' => ∃ E : Int, e = .returned (.int .i64 E) ∧ (E = 0 ↔ noMark c) ∧ Below w.heap.size w W' := by
  obtain ⟨ua, uc, rfl⟩ := hT.slice
  obtain ⟨ba, bn, bc, rfl⟩ := hbu
  have hb0 : Below w.heap.size w (w.alloc (.cells #[.int .i64 c.n, .int .i64 c.v, .string (bs c.x), .int .i64 c.g, .slice ua c.T.length uc, .slice ba bn bc] 27)) := (Below.refl _ w).alloc (Nat.le_refl _) _
  have hC := certCheck_nil c.x c.g c.T (.slice ua c.T.length uc) _ (he.next hb0) hll (hT.below hb0 (Nat.le_refl _))
  have HB : Hid (_) := hb0
  obtain ⟨cn, cv, cx, cg, cT⟩ := c
  simp only [noMark] at hC HB hll ⊢
  clear hb0 hT he
  by_cases hv : cv = 0
  · subst hv
    clear hC
    by_cases hx : cx = []
    · subst hx
      have e0 : bs [] = ⟨#[]⟩ := rfl
      rw [e0] at *
      by_cases hg : cg = 0
      · subst hg
        by_cases hT0 : cT = []
        · subst hT0
          go_enter Tryz.func11, Tryz.ntmps11
          go_wp2
          exact bodyPost_ret (v := .int .i64 0) (by simp [results, Tryz.f11, go_sem]) rfl ⟨0, rfl, by simp, HB.out⟩
        · have hl : (0 : Int) < (cT.length : Int) := by have := List.length_pos_iff.2 hT0; omega
          have HN : Hid (cT ≠ []) := hT0
          clear hT0
          go_enter Tryz.func11, Tryz.ntmps11
          go_wp2
          exact bodyPost_ret (v := .int .i64 4) (by simp [results, Tryz.f11, go_sem]) rfl ⟨4, rfl, by simp [HN.out], HB.out⟩
      · have hgb : (cg != 0) = true := by simpa using hg
        have HN : Hid (cg ≠ 0) := hg
        clear hg
        go_enter Tryz.func11, Tryz.ntmps11
        go_wp2
        exact bodyPost_ret (v := .int .i64 4) (by simp [results, Tryz.f11, go_sem]) rfl ⟨4, rfl, by simp [HN.out], HB.out⟩
    · have hxb := str_other (b := []) hx
      have HN : Hid (cx ≠ []) := hx
      have hxe := empty_no hx
      clear hx hxb
      go_enter Tryz.func11, Tryz.ntmps11
      go_wp2
      exact bodyPost_ret (v := .int .i64 4) (by simp [results, Tryz.f11, go_sem]) rfl ⟨4, rfl, by simp [HN.out], HB.out⟩
  · have hvb : (cv == 0) = false := by simpa using hv
    have HN : Hid (cv ≠ 0) := hv
    clear hv
    go_enter Tryz.func11, Tryz.ntmps11
    go_upto_region 6 with (first | (go_at_call 19; refine hC.mono ?_; clear hC; rintro e w1 ⟨E, rfl, hE, h1⟩))
    have hq : (E != 0) = true := by simpa using hE
    have HE : Hid (E ≠ 0) := hE
    clear hE
    go_wp2
    exact bodyPost_ret (v := .int .i64 E) (by simp [results, Tryz.f11, go_sem]) rfl ⟨E, rfl, ⟨fun h => absurd h HE.out, fun h => absurd h.1 HN.out⟩, HB.out.trans (h1.mono HB.out.size)⟩
end Go.Proofs.YtifalaigfinciaaGreatDoor
