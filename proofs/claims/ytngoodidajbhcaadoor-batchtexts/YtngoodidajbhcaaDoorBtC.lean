/- slices.IndexFunc with each of the three questions, and find, walked. -/
import Derived.Test.YtngoodidajbhcaaDoorBtB
namespace Go.Proofs.YtngoodidajbhcaaDoor.Bat
open Go.RowKit
attribute [local go_sem ↓] Go.wp_at_zero Go.wp_at_succ

/-- The first place of one of those, or -1. -/
def idxI (p : Rq → Bool) (l : List Rq) : Int := match l.findIdx? p with | some i => (i : Int) | none => -1
def NoHit (p : Rq → Bool) (l : List Rq) (k : Nat) : Prop := ∀ i a, i < k → l[i]? = some a → p a = false
theorem NoHit.succ {p : Rq → Bool} {l : List Rq} {k : Nat} {a : Rq} (h : NoHit p l k) (ha : l[k]? = some a) (hp : p a = false) : NoHit p l (k + 1) := by
  intro i b hi hb
  by_cases e : i = k
  · subst e; rw [ha] at hb; injection hb with hb; subst hb; exact hp
  · exact h i b (by omega) hb
theorem idx_hit {p : Rq → Bool} {l : List Rq} {k : Nat} {a : Rq} (h : NoHit p l k) (ha : l[k]? = some a) (hp : p a = true) : l.findIdx? p = some k := by
  obtain ⟨hk, e⟩ := List.getElem?_eq_some_iff.1 ha
  rw [List.findIdx?_eq_some_iff_getElem]
  refine ⟨hk, by rw [e]; exact hp, fun j hj => ?_⟩
  have := h j l[j] hj (List.getElem?_eq_getElem (by omega))
  simp [this]
theorem idx_none {p : Rq → Bool} {l : List Rq} (h : NoHit p l l.length) : l.findIdx? p = none := by
  rw [List.findIdx?_eq_none_iff]
  intro a ha
  obtain ⟨i, hi, e⟩ := List.getElem_of_mem ha
  exact h i a hi (by rw [List.getElem?_eq_getElem hi, e])
set_option maxRecDepth 20000 in
set_option maxHeartbeats 4000000 in
theorem IndexFunc33 {base : Nat} {w : World} {v : Value} {l : List Rq} (hl : w.ownsRow base 26 3 v l.length (rcs l)) (hlen : l.length ≤ 1000) (c : Int) (P : Nat) (hc : w.cell? ⟨P, 0, none⟩ = some (.int .i64 c)) (hP : P < w.heap.size) :
    Calls Tryd.prog 33 #[v, .func (.func 34) #[] #[.pointer (some ⟨P, 0, none⟩)]] w fun e W' => e = .returned (.int .i64 (idxI (ofP c) l)) ∧ Below w.heap.size w W' := by
  obtain ⟨va, vc, rfl⟩ := owns_slice hl
  go_enter Tryd.func33, Tryd.ntmps33
  go_wp2_with fail
  go_loopg [8] l.length (fun gk i wr => ∃ k : Nat, k + gk = l.length ∧ i = .int .i64 k ∧ Hid (NoHit (ofP c) l k) ∧ Below w.heap.size w wr)
  case atStart => exact ⟨0, by omega, rfl, fun i a hi => absurd hi (Nat.not_lt_zero _), Below.refl _ _⟩
  case round =>
    obtain ⟨k, hk, rfl, HN, hB⟩ := hrel
    by_cases hlt : k < l.length
    · obtain ⟨a, ha⟩ : ∃ a, l[k]? = some a := ⟨_, List.getElem?_eq_getElem hlt⟩
      obtain ⟨gb, cap, hv, hg1, hg2, x0, x1, x2⟩ := row_at (owns_next hl hB) ha
      injection hv with e1 _ e2
      subst e1 e2
      have m0 : (0 : Int) ≤ (k : Int) := by omega
      have m1 : (k : Int) < (l.length : Int) := by omega
      have hC := clo33 c P a wr ((hB.cell (p := ⟨P, 0, none⟩) hP).trans hc)
      cases hp : ofP c a
      · have HN2 : Hid (NoHit (ofP c) l (k + 1)) := NoHit.succ HN.out ha hp
        rw [hp] at hC
        clear ha hp
        go_wp2_with (first | (go_at_call 34; refine hC.mono ?_; rintro e w1 ⟨rfl, hb1⟩))
        go_roundg (l.length - (k + 1))
        case measure => omega
        case rel => exact ⟨k + 1, by omega, by go_num, HN2, hB.trans (hb1.mono hB.size)⟩
      · have HI : Hid (idxI (ofP c) l = k) := by show _ = _; rw [idxI, idx_hit HN.out ha hp]
        rw [hp] at hC
        clear ha hp
        go_wp2_with (first | (go_at_call 34; refine hC.mono ?_; rintro e w1 ⟨rfl, hb1⟩))
        go_ret
        exact ⟨by rw [HI.out]; rfl, hB.trans (hb1.mono hB.size)⟩
    · have hkl : k = l.length := by omega
      subst hkl
      have HI : Hid (idxI (ofP c) l = -1) := by show _ = _; rw [idxI, idx_none HN.out]
      go_wp2
      go_ret
      exact ⟨by rw [HI.out]; rfl, hB⟩
set_option maxRecDepth 20000 in
set_option maxHeartbeats 4000000 in
theorem IndexFunc35 {base : Nat} {w : World} {v : Value} {l : List Rq} (hl : w.ownsRow base 26 3 v l.length (rcs l)) (hlen : l.length ≤ 1000) (c n : Int) (P Q : Nat) (hc : w.cell? ⟨P, 0, none⟩ = some (.int .i64 c)) (hP : P < w.heap.size) (hn : w.cell? ⟨Q, 0, none⟩ = some (.int .i64 n)) (hQ : Q < w.heap.size) :
    Calls Tryd.prog 33 #[v, .func (.func 36) #[] #[.pointer (some ⟨P, 0, none⟩), .pointer (some ⟨Q, 0, none⟩)]] w fun e W' => e = .returned (.int .i64 (idxI (upP c n) l)) ∧ Below w.heap.size w W' := by
  obtain ⟨va, vc, rfl⟩ := owns_slice hl
  go_enter Tryd.func33, Tryd.ntmps33
  go_wp2_with fail
  go_loopg [8] l.length (fun gk i wr => ∃ k : Nat, k + gk = l.length ∧ i = .int .i64 k ∧ Hid (NoHit (upP c n) l k) ∧ Below w.heap.size w wr)
  case atStart => exact ⟨0, by omega, rfl, fun i a hi => absurd hi (Nat.not_lt_zero _), Below.refl _ _⟩
  case round =>
    obtain ⟨k, hk, rfl, HN, hB⟩ := hrel
    by_cases hlt : k < l.length
    · obtain ⟨a, ha⟩ : ∃ a, l[k]? = some a := ⟨_, List.getElem?_eq_getElem hlt⟩
      obtain ⟨gb, cap, hv, hg1, hg2, x0, x1, x2⟩ := row_at (owns_next hl hB) ha
      injection hv with e1 _ e2
      subst e1 e2
      have m0 : (0 : Int) ≤ (k : Int) := by omega
      have m1 : (k : Int) < (l.length : Int) := by omega
      have hC := clo35 c n P Q a wr ((hB.cell (p := ⟨P, 0, none⟩) hP).trans hc) ((hB.cell (p := ⟨Q, 0, none⟩) hQ).trans hn)
      cases hp : upP c n a
      · have HN2 : Hid (NoHit (upP c n) l (k + 1)) := NoHit.succ HN.out ha hp
        rw [hp] at hC
        clear ha hp
        go_wp2_with (first | (go_at_call 36; refine hC.mono ?_; rintro e w1 ⟨rfl, hb1⟩))
        go_roundg (l.length - (k + 1))
        case measure => omega
        case rel => exact ⟨k + 1, by omega, by go_num, HN2, hB.trans (hb1.mono hB.size)⟩
      · have HI : Hid (idxI (upP c n) l = k) := by show _ = _; rw [idxI, idx_hit HN.out ha hp]
        rw [hp] at hC
        clear ha hp
        go_wp2_with (first | (go_at_call 36; refine hC.mono ?_; rintro e w1 ⟨rfl, hb1⟩))
        go_ret
        exact ⟨by rw [HI.out]; rfl, hB.trans (hb1.mono hB.size)⟩
    · have hkl : k = l.length := by omega
      subst hkl
      have HI : Hid (idxI (upP c n) l = -1) := by show _ = _; rw [idxI, idx_none HN.out]
      go_wp2
      go_ret
      exact ⟨by rw [HI.out]; rfl, hB⟩
theorem find_nil (f : Value) (w : World) : Calls Tryd.prog 21 #[.pointer none, f] w fun e W' => e = .returned (.int .i64 (-1)) ∧ W' = w := by
  go_enter Tryd.func21, Tryd.ntmps21
  go_wp2
  go_ret
  exact ⟨rfl, rfl⟩
set_option maxHeartbeats 1000000 in
theorem find33 {base : Nat} {w : World} {B : Nat} {v : Value} {l : List Rq} {D : Nat → Int} (h : PoolAt base w B v l D) (hlen : l.length ≤ 1000) (c : Int) (P : Nat) (hc : w.cell? ⟨P, 0, none⟩ = some (.int .i64 c)) (hP : P < w.heap.size) :
    Calls Tryd.prog 21 #[.pointer (some ⟨B, 0, none⟩), .func (.func 34) #[] #[.pointer (some ⟨P, 0, none⟩)]] w fun e W' => e = .returned (.int .i64 (idxI (ofP c) l)) ∧ Below w.heap.size w W' := by
  have hI := IndexFunc33 h.own hlen c P hc hP
  have c0 := h.c0.1
  go_enter Tryd.func21, Tryd.ntmps21
  go_wp2_with (first | (go_at_call 33; refine hI.mono ?_; rintro e w1 ⟨rfl, hb1⟩))
  go_ret
  exact ⟨rfl, hb1⟩
set_option maxHeartbeats 1000000 in
theorem find35 {base : Nat} {w : World} {B : Nat} {v : Value} {l : List Rq} {D : Nat → Int} (h : PoolAt base w B v l D) (hlen : l.length ≤ 1000) (c n : Int) (P Q : Nat) (hc : w.cell? ⟨P, 0, none⟩ = some (.int .i64 c)) (hP : P < w.heap.size) (hn : w.cell? ⟨Q, 0, none⟩ = some (.int .i64 n)) (hQ : Q < w.heap.size) :
    Calls Tryd.prog 21 #[.pointer (some ⟨B, 0, none⟩), .func (.func 36) #[] #[.pointer (some ⟨P, 0, none⟩), .pointer (some ⟨Q, 0, none⟩)]] w fun e W' => e = .returned (.int .i64 (idxI (upP c n) l)) ∧ Below w.heap.size w W' := by
  have hI := IndexFunc35 h.own hlen c n P Q hc hP hn hQ
  have c0 := h.c0.1
  go_enter Tryd.func21, Tryd.ntmps21
  go_wp2_with (first | (go_at_call 33; refine hI.mono ?_; rintro e w1 ⟨rfl, hb1⟩))
  go_ret
  exact ⟨rfl, hb1⟩
end Go.Proofs.YtngoodidajbhcaaDoor.Bat
