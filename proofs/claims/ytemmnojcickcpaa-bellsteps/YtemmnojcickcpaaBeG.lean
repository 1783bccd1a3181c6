/- The bell's small methods, walked: New, Now, isName, find, remove, Due, Next. -/
import Derived.Test.YtemmnojcickcpaaBeF
import Derived.Test.YtemmnojcickcpaaBeR
namespace Go.Proofs.Ytemmnojcickcpaa
open Go.RowKit
attribute [local go_sem ↓] Go.wp_at_zero Go.wp_at_succ

/-- A bell with these timers, at this moment. -/
def BelSt (base : Nat) (w : World) (B : Nat) (v : Value) (F : Ft) (now : Int) : Prop := ∃ l, BellAt base w B v l now ∧ Hp l.length (gf l) ∧ Rep l F
theorem BelSt.next {base : Nat} {w w' : World} {B : Nat} {v : Value} {F : Ft} {now : Int} (h : BelSt base w B v F now) (hb : Below w.heap.size w w') : BelSt base w' B v F now := by
  obtain ⟨l, h1, h2, h3⟩ := h
  exact ⟨l, h1.next hb, h2, h3⟩
theorem BelSt.lt {base : Nat} {w : World} {B : Nat} {v : Value} {F : Ft} {now : Int} (h : BelSt base w B v F now) : B < w.heap.size := by obtain ⟨l, h1, _⟩ := h; exact h1.lt
theorem BelSt.base {base : Nat} {w : World} {B : Nat} {v : Value} {F : Ft} {now : Int} (h : BelSt base w B v F now) : base ≤ B := by obtain ⟨l, h1, _⟩ := h; exact h1.base
theorem BelSt.ownlt {base : Nat} {w : World} {B : Nat} {v : Value} {F : Ft} {now : Int} (h : BelSt base w B v F now) : ∀ k, v.ownBlock = some k → base ≤ k ∧ k < w.heap.size := by obtain ⟨l, h1, _⟩ := h; exact h1.own.lt
theorem BelSt.bel {b base : Nat} {w w' : World} {B : Nat} {v v' : Value} {F : Ft} {now : Int} (h : BelSt base w B v F now) (hm : Moved B v v' w w') (hb : b ≤ base) : Below b w w' := by obtain ⟨l, h1, _⟩ := h; exact h1.bel hm hb
theorem BelSt.new (w : World) (base : Nat) (hb : base ≤ w.heap.size) : BelSt base (w.alloc (.cells #[.slice none 0 0, .int .i64 0] 75)) w.heap.size (.slice none 0 0) (fun _ => none) 0 :=
  ⟨[], ⟨heap_alloc_new _ _, World.ownsRow_nil _ _ _ _, fun h => (by cases h), hb⟩, fun k _ hk => absurd hk (by simp), Rep.nil⟩

theorem New_any (w : World) : Calls Try.prog 22 #[] w fun e W' => e = .returned (.pointer (some ⟨w.heap.size, 0, none⟩)) ∧ W' = w.alloc (.cells #[.slice none 0 0, .int .i64 0] 75) := by
  go_enter Try.func22, Try.ntmps22
  go_wp2
  go_ret
  exact ⟨rfl, rfl⟩
theorem Now_nil (w : World) : Calls Try.prog 29 #[.pointer none] w fun e W' => e = .returned (.int .i64 0) ∧ W' = w := by
  go_enter Try.func29, Try.ntmps29
  go_wp2
  go_ret
  exact ⟨rfl, rfl⟩
theorem Now_any {base : Nat} {w : World} {B : Nat} {v : Value} {F : Ft} {now : Int} (h : BelSt base w B v F now) : Calls Try.prog 29 #[.pointer (some ⟨B, 0, none⟩)] w fun e W' => e = .returned (.int .i64 now) ∧ W' = w := by
  obtain ⟨l, h1, _⟩ := h
  have c0 := cellB h1.blk 1 (.int .i64 now) rfl
  clear h1
  go_enter Try.func29, Try.ntmps29
  go_wp2
  go_ret
  exact ⟨rfl, rfl⟩
/-- Is it a name? -/
def nameB (n : Int) : Bool := decide (0 ≤ n ∧ n < 16)
theorem isName_any (n : Int) (w : World) : Calls Try.prog 44 #[.int .i64 n] w fun e W' => e = .returned (.bool (nameB n)) ∧ W' = w := by
  by_cases h1 : 0 ≤ n
  · by_cases h2 : n < 16
    · rw [show nameB n = true by simp [nameB, h1, h2]]
      go_enter Try.func44, Try.ntmps44
      go_wp2
      go_ret
      exact ⟨rfl, rfl⟩
    · rw [show nameB n = false by simp [nameB, h2]]
      go_enter Try.func44, Try.ntmps44
      go_wp2
      go_ret
      exact ⟨rfl, rfl⟩
  · rw [show nameB n = false by simp [nameB, h1]]
    go_enter Try.func44, Try.ntmps44
    go_wp2
    go_ret
    exact ⟨rfl, rfl⟩
theorem nameB_true {n : Int} (h : nameB n = true) : 0 ≤ n ∧ n < 16 := of_decide_eq_true h
theorem nameB_false {n : Int} (h : nameB n = false) : n < 0 ∨ 16 ≤ n := by have := of_decide_eq_false h; omega

/-- No timer of this name. -/
def NoName (l : List Tm) (n : Int) : Prop := ∀ t ∈ l, t.1 ≠ n
theorem find_nil (n : Int) (w : World) : Calls Try.prog 43 #[.pointer none, .int .i64 n] w fun e W' => e = .returned (.tuple #[.int .i64 0, .bool false]) ∧ W' = w := by
  go_enter Try.func43, Try.ntmps43
  go_wp2
  go_ret2
  exact ⟨rfl, rfl⟩
set_option maxRecDepth 20000 in
set_option maxHeartbeats 2000000 in
theorem find_any {base : Nat} {w : World} {B : Nat} {v : Value} {l : List Tm} {now : Int} (h : BellAt base w B v l now) (hl : l.length ≤ 100) (n : Int) :
    Calls Try.prog 43 #[.pointer (some ⟨B, 0, none⟩), .int .i64 n] w fun e W' => ((∃ k : Nat, k < l.length ∧ (gf l k).1 = n ∧ e = .returned (.tuple #[.int .i64 k, .bool true])) ∨ NoName l n ∧ e = .returned (.tuple #[.int .i64 0, .bool false])) ∧ W' = w := by
  obtain ⟨a, cap, hv⟩ := h.slice
  have c0 := cellB h.blk 0 v rfl
  rw [hv] at c0
  go_enter Try.func43, Try.ntmps43
  go_wp2_with fail
  go_loop [14] (fun i => ∃ k : Nat, k ≤ l.length ∧ i = .int .i64 k ∧ Hid (∀ t ∈ l.take k, t.1 ≠ n)) (fun i => l.length - (intOf i).toNat)
  case atStart => exact ⟨0, Nat.zero_le _, rfl, fun t ht => by simp at ht⟩
  case round =>
    obtain ⟨k, hk, rfl, HT⟩ := hrel
    by_cases hlt : k < l.length
    · obtain ⟨t, ht⟩ : ∃ t, l[k]? = some t := ⟨_, List.getElem?_eq_getElem hlt⟩
      obtain ⟨g, cap', hgv, hg1, hg2, hg3, hcap, hcs⟩ := h.at (by omega)
      rw [hv] at hgv
      injection hgv with e1 _ e2
      subst e1 e2
      obtain ⟨x0, x1, x2⟩ := hcs k _ ht
      have k0 : (0 : Int) ≤ (k : Int) := by omega
      have k1 : (k : Int) < (l.length : Int) := by omega
      by_cases hn : t.1 = n
      · have hq : (t.1 == n) = true := by simp [hn]
        have HN : Hid ((gf l k).1 = n) := by show _ = _; rw [gf_at ht]; exact hn
        clear hcs ht hn hv
        go_wp2
        go_ret2
        exact ⟨.inl ⟨k, hlt, HN.out, rfl⟩, rfl⟩
      · have hq : (t.1 == n) = false := by simp [hn]
        have HT2 : Hid (∀ t ∈ l.take (k + 1), t.1 ≠ n) := by
          intro x hx
          obtain ⟨hk', e⟩ := List.getElem?_eq_some_iff.1 ht
          rw [List.take_succ_eq_append_getElem hk', e] at hx
          rcases List.mem_append.1 hx with hx | hx
          · exact HT.out x hx
          · rw [List.mem_singleton.1 hx]; exact hn
        clear hcs ht hn hv HT
        go_wp2
        go_round
        case rel => exact ⟨k + 1, by omega, by go_num, HT2⟩
        case measure => simp [intOf]; omega
    · have hkl : k = l.length := by omega
      subst hkl
      have HN : Hid (NoName l n) := fun t ht => HT.out t (by rw [List.take_length]; exact ht)
      clear HT
      go_wp2
      go_ret2
      exact ⟨.inr ⟨HN.out, rfl⟩, rfl⟩
theorem remove_nil (n : Int) (w : World) : Calls Try.prog 45 #[.pointer none, .int .i64 n] w fun e W' => e = .returned (.bool false) ∧ W' = w := by
  go_enter Try.func45, Try.ntmps45
  go_wp2_with (go_at_call 43; refine (find_nil _ _).mono ?_; rintro e w1 ⟨rfl, rfl⟩)
  go_ret
  exact ⟨rfl, rfl⟩
set_option maxRecDepth 20000 in
set_option maxHeartbeats 2000000 in
theorem remove_any {base : Nat} {w : World} {B : Nat} {v : Value} {F : Ft} {now : Int} (h : BelSt base w B v F now) (n : Int) :
    Calls Try.prog 45 #[.pointer (some ⟨B, 0, none⟩), .int .i64 n] w fun e W' => e = .returned (.bool (F n).isSome) ∧ ∃ v', BelSt base W' B v' (upd F n none) now ∧ Moved B v v' w W' := by
  obtain ⟨l, h1, hH, hR⟩ := h
  have hfew := hR.few
  have hF := find_any h1 (by omega) n
  obtain ⟨R, hRe⟩ : ∃ R, (F n).isSome = R := ⟨_, rfl⟩
  rw [hRe]
  go_enter Try.func45, Try.ntmps45
  go_wp2_with fail
  refine hF.mono ?_
  rintro e w1 ⟨⟨k, hk, hkn, rfl⟩ | ⟨hno, rfl⟩, rfl⟩
  · have hRm := hRemove_any h1 k hk (by omega) hH
    have hRt : R = true := by
      have := hR.has (t := gf l k) (by rw [gf_at (List.getElem?_eq_getElem hk)]; exact List.getElem_mem hk)
      rw [hkn] at this
      rw [← hRe, this]; rfl
    subst hRt
    have HR : Hid (Rep l F) := hR
    have HK : Hid ((gf l k).1 = n) := hkn
    clear hF hkn hRe hR hH hfew
    go_wp2_with (go_at_call 50; refine hRm.mono ?_; rintro e w2 ⟨u, rfl, v2, l2, h2, hp2, hh2, hm2⟩)
    go_ret
    have h3 := (HR.out.drop hp2).1
    rw [HK.out] at h3
    exact ⟨rfl, v2, ⟨l2, h2, hh2, h3⟩, hm2⟩
  · have hnone := hR.hasnt hno
    have hRf : R = false := by rw [← hRe, hnone]; rfl
    subst hRf
    have HZ : Hid (BelSt base w1 B v (upd F n none) now) := ⟨l, h1, hH, by rw [upd_none hnone]; exact hR⟩
    clear hF hRe hnone hR hH hno hfew
    go_wp2
    go_ret
    exact ⟨rfl, v, HZ.out, Moved.refl _ _ _⟩
theorem Due_nil (n : Int) (w : World) : Calls Try.prog 28 #[.pointer none, .int .i64 n] w fun e W' => e = .returned (.tuple #[.int .i64 0, .bool false]) ∧ W' = w := by
  go_enter Try.func28, Try.ntmps28
  go_wp2_with (go_at_call 43; refine (find_nil _ _).mono ?_; rintro e w1 ⟨rfl, rfl⟩)
  go_ret2
  exact ⟨rfl, rfl⟩
/-- What Due tells. -/
def dueV (o : Option (Int × Int)) : Int := match o with | some (d, _) => d | none => 0
set_option maxRecDepth 20000 in
set_option maxHeartbeats 2000000 in
theorem Due_any {base : Nat} {w : World} {B : Nat} {v : Value} {F : Ft} {now : Int} (h : BelSt base w B v F now) (n : Int) :
    Calls Try.prog 28 #[.pointer (some ⟨B, 0, none⟩), .int .i64 n] w fun e W' => e = .returned (.tuple #[.int .i64 (dueV (F n)), .bool (F n).isSome]) ∧ W' = w := by
  obtain ⟨l, h1, hH, hR⟩ := h
  have hfew := hR.few
  have hF := find_any h1 (by omega) n
  obtain ⟨R, hRe⟩ : ∃ R, (F n).isSome = R := ⟨_, rfl⟩
  obtain ⟨D, hDe⟩ : ∃ D, dueV (F n) = D := ⟨_, rfl⟩
  rw [hRe, hDe]
  go_enter Try.func28, Try.ntmps28
  go_wp2_with fail
  refine hF.mono ?_
  rintro e w1 ⟨⟨k, hk, hkn, rfl⟩ | ⟨hno, rfl⟩, rfl⟩
  · obtain ⟨⟨t0, t1, t2⟩, ht⟩ : ∃ t, l[k]? = some t := ⟨_, List.getElem?_eq_getElem hk⟩
    have hFk := hR.has (List.mem_of_getElem? ht)
    rw [gf_at ht] at hkn
    simp only at hkn hFk
    subst hkn
    rw [hFk] at hRe hDe
    have hRt : R = true := hRe.symm
    have hDt : D = t1 := hDe.symm
    subst hRt hDt
    obtain ⟨g, cap, rfl, hg1, hg2, hg3, hcap, hcs⟩ := h1.at (by omega)
    obtain ⟨x0, x1, x2⟩ := hcs k _ ht
    have c0 := cellB h1.blk 0 _ rfl
    have k0 : (0 : Int) ≤ (k : Int) := by omega
    have k1 : (k : Int) < (l.length : Int) := by omega
    simp only at x0 x1 x2
    clear hF hRe hDe hFk hR hH hcs ht h1 hfew
    go_wp2
    go_ret2
    exact ⟨rfl, rfl⟩
  · have hnone := hR.hasnt hno
    have hRf : R = false := by rw [← hRe, hnone]; rfl
    have hDf : D = 0 := by rw [← hDe, hnone]; rfl
    subst hRf hDf
    clear hF hRe hDe hnone hR hH hno h1 hfew
    go_wp2
    go_ret2
    exact ⟨rfl, rfl⟩
theorem Next_nil (w : World) : Calls Try.prog 26 #[.pointer none] w fun e W' => e = .returned (.tuple #[.int .i64 0, .bool false]) ∧ W' = w := by
  go_enter Try.func26, Try.ntmps26
  go_wp2
  go_ret2
  exact ⟨rfl, rfl⟩
end Go.Proofs.Ytemmnojcickcpaa
