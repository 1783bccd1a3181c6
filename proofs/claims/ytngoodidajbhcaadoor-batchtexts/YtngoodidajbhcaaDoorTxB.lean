/- A batch's texts, read: the pool's own function Texts, and the document's. -/
import Derived.Test.YtngoodidajbhcaaDoorNsR
import Derived.Test.YtngoodidajbhcaaDoorNsL
import Derived.Deep.LoopGhost
namespace Go.Proofs.YtngoodidajbhcaaDoor
open Go.RowKit
attribute [local go_sem ↓] Go.wp_at_zero Go.wp_at_succ

/-- Is a text longer than a request's may be? -/
def lgP (t : List UInt8) : Bool := decide (4000 < t.length)
def idxT (l : List (List UInt8)) : Int := match l.findIdx? lgP with | some i => (i : Int) | none => -1
def NoLg (l : List (List UInt8)) (k : Nat) : Prop := ∀ i a, i < k → l[i]? = some a → lgP a = false
theorem NoLg.succ {l : List (List UInt8)} {k : Nat} {a : List UInt8} (h : NoLg l k) (ha : l[k]? = some a) (hp : lgP a = false) : NoLg l (k + 1) := by
  intro i b hi hb
  by_cases e : i = k
  · subst e; rw [ha] at hb; injection hb with hb; subst hb; exact hp
  · exact h i b (by omega) hb
theorem lg_hit {l : List (List UInt8)} {k : Nat} {a : List UInt8} (h : NoLg l k) (ha : l[k]? = some a) (hp : lgP a = true) : l.findIdx? lgP = some k := by
  obtain ⟨hk, e⟩ := List.getElem?_eq_some_iff.1 ha
  rw [List.findIdx?_eq_some_iff_getElem]
  refine ⟨hk, by rw [e]; exact hp, fun j hj => ?_⟩
  have := h j (l[j]'(by omega)) hj (List.getElem?_eq_getElem (by omega))
  rw [this]; exact Bool.false_ne_true
theorem lg_none {l : List (List UInt8)} (h : NoLg l l.length) : l.findIdx? lgP = none := by
  rw [List.findIdx?_eq_none_iff]
  intro a ha
  obtain ⟨i, hi, e⟩ := List.getElem_of_mem ha
  exact h i a hi (by rw [List.getElem?_eq_getElem hi, e])
theorem any_idx (l : List (List UInt8)) : l.any lgP = (l.findIdx? lgP).isSome := by
  rw [List.findIdx?_isSome]
theorem any_none {l : List (List UInt8)} (h : NoLg l l.length) : l.any lgP = false := by rw [any_idx, lg_none h]; rfl
theorem any_hit {l : List (List UInt8)} {k : Nat} {a : List UInt8} (h : NoLg l k) (ha : l[k]? = some a) (hp : lgP a = true) : l.any lgP = true := by rw [any_idx, lg_hit h ha hp]; rfl

theorem isLong_any (t : List UInt8) (w : World) : Calls Tryd.prog 17 #[.string (bs t)] w fun e W' => e = .returned (.bool (lgP t)) ∧ Below w.heap.size w W' := by
  have hts : (bs t).size = t.length := bs_size t
  obtain ⟨R, hR⟩ : ∃ R, lgP t = R := ⟨_, rfl⟩
  rw [hR]
  go_enter Tryd.func17, Tryd.ntmps17
  go_wp2
  go_ret
  refine ⟨?_, Below.refl _ _⟩
  rw [← hR, lgP]
  congr 2
  simp
  omega

set_option maxRecDepth 20000 in
set_option maxHeartbeats 4000000 in
theorem IndexT_any {w : World} {v : Value} {l : List (List UInt8)} (hl : Sl w v l) (hlen : l.length ≤ 1000000) :
    Calls Tryd.prog 31 #[v, .func (.func 17) #[] #[]] w fun e W' => e = .returned (.int .i64 (idxT l)) ∧ Below w.heap.size w W' := by
  obtain ⟨va, vc, rfl⟩ := hl.slice
  go_enter Tryd.func31, Tryd.ntmps31
  go_wp2_with fail
  go_loopg [8] l.length (fun gk i wr => ∃ k : Nat, k + gk = l.length ∧ i = .int .i64 k ∧ Hid (NoLg l k) ∧ Below w.heap.size w wr)
  case atStart => exact ⟨0, by omega, rfl, fun i a hi => absurd hi (Nat.not_lt_zero _), Below.refl _ _⟩
  case round =>
    obtain ⟨k, hk, rfl, HN, hB⟩ := hrel
    by_cases hlt : k < l.length
    · obtain ⟨a, ha⟩ : ∃ a, l[k]? = some a := ⟨_, List.getElem?_eq_getElem hlt⟩
      rcases hl.below hB (Nat.le_refl _) with ⟨rfl, _⟩ | ⟨vb, vo, vcap, hve, _, hvc⟩
      · cases ha
      injection hve with hva _ hvcap
      subst hva hvcap
      have hct := hvc k a ha
      have m0 : (0 : Int) ≤ (k : Int) := by omega
      have m1 : (k : Int) < (l.length : Int) := by omega
      have hC := isLong_any a wr
      clear hvc
      cases hp : lgP a
      · have HN2 : Hid (NoLg l (k + 1)) := NoLg.succ HN.out ha hp
        rw [hp] at hC
        clear ha hp
        go_wp2_with (first | (go_at_call 17; refine hC.mono ?_; rintro e w1 ⟨rfl, hb1⟩))
        go_roundg (l.length - (k + 1))
        case measure => omega
        case rel => exact ⟨k + 1, by omega, by go_num, HN2, hB.trans (hb1.mono hB.size)⟩
      · have HI : Hid (idxT l = k) := by show _ = _; rw [idxT, lg_hit HN.out ha hp]
        rw [hp] at hC
        clear ha hp
        go_wp2_with (first | (go_at_call 17; refine hC.mono ?_; rintro e w1 ⟨rfl, hb1⟩))
        go_ret
        exact ⟨by rw [HI.out]; rfl, hB.trans (hb1.mono hB.size)⟩
    · have hkl : k = l.length := by omega
      subst hkl
      have HI : Hid (idxT l = -1) := by show _ = _; rw [idxT, lg_none HN.out]
      go_wp2
      go_ret
      exact ⟨by rw [HI.out]; rfl, hB⟩

theorem idxT_some {l : List (List UInt8)} (h : l.any lgP = true) : ∃ i : Nat, idxT l = i := by
  rw [any_idx] at h
  obtain ⟨i, hi⟩ := Option.isSome_iff_exists.1 h
  exact ⟨i, by rw [idxT, hi]⟩
theorem idxT_none {l : List (List UInt8)} (h : l.any lgP = false) : idxT l = -1 := by
  rw [any_idx] at h
  rw [idxT, Option.isSome_eq_false_iff.1 h |> Option.isNone_iff_eq_none.1]

theorem Contains_any {w : World} {v : Value} {l : List (List UInt8)} (hl : Sl w v l) (hlen : l.length ≤ 1000000) :
    Calls Tryd.prog 16 #[v, .func (.func 17) #[] #[]] w fun e W' => e = .returned (.bool (l.any lgP)) ∧ Below w.heap.size w W' := by
  have hI := IndexT_any hl hlen
  cases hA : l.any lgP
  · rw [idxT_none hA] at hI
    go_enter Tryd.func16, Tryd.ntmps16
    go_wp2_with (first | (go_at_call 31; refine hI.mono ?_; rintro e w1 ⟨rfl, hb1⟩))
    go_ret
    exact ⟨rfl, hb1⟩
  · obtain ⟨i, hi⟩ := idxT_some hA
    rw [hi] at hI
    go_enter Tryd.func16, Tryd.ntmps16
    go_wp2_with (first | (go_at_call 31; refine hI.mono ?_; rintro e w1 ⟨rfl, hb1⟩))
    go_ret
    exact ⟨by simp, hb1⟩
end Go.Proofs.YtngoodidajbhcaaDoor
