/- The document's table: Check, at, walked. -/
import Derived.Test.YtihilkdokfdoeaaDoorTbH
import Derived.Test.YtihilkdokfdoeaaDoorTbQ
namespace Go.Proofs.YtihilkdokfdoeaaDoor
open Go.RowKit
attribute [local go_sem ↓] Go.wp_at_zero Go.wp_at_succ

set_option maxHeartbeats 2000000 in
theorem rCheck_any (kind : Int) (k v o : List UInt8) (w : World) : Calls Tryd.prog 39 #[opV kind k v o] w fun e W' => e = .returned (.int .i64 (chk kind k v o)) ∧ Below w.heap.size w W' := by
  have sk : (bs k).size = k.length := bs_size k
  have sv : (bs v).size = v.length := bs_size v
  have so : (bs o).size = o.length := bs_size o
  by_cases h1 : kind < 1
  · rw [show chk kind k v o = 1 from if_pos (.inl h1)]
    go_enter Tryd.func39, Tryd.ntmps39
    go_wp2
    go_ret
    exact ⟨rfl, (Below.refl _ _).alloc (Nat.le_refl _) _⟩
  · have h1' : 1 ≤ kind := by omega
    by_cases h5 : 5 < kind
    · rw [show chk kind k v o = 1 from if_pos (.inr h5)]
      clear h1
      go_enter Tryd.func39, Tryd.ntmps39
      go_wp2
      go_ret
      exact ⟨rfl, (Below.refl _ _).alloc (Nat.le_refl _) _⟩
    · have h5' : kind ≤ 5 := by omega
      have hr : ¬ (kind < 1 ∨ 5 < kind) := by omega
      by_cases hb : isK k = false ∨ isV v = false ∨ isV o = false
      · rw [show chk kind k v o = 130 by rw [chk, if_neg hr, if_pos hb]]
        have hb' : (k.length : Int) < 1 ∨ ((1 : Int) ≤ k.length ∧ 16 < (k.length : Int)) ∨ ((1 : Int) ≤ k.length ∧ (k.length : Int) ≤ 16 ∧ 64 < (v.length : Int)) ∨ ((1 : Int) ≤ k.length ∧ (k.length : Int) ≤ 16 ∧ (v.length : Int) ≤ 64 ∧ 64 < (o.length : Int)) := by
          simp only [isK, isV, Bool.and_eq_false_iff, decide_eq_false_iff_not] at hb
          omega
        clear h1 h5 hr hb
        rcases hb' with b1 | ⟨b1, b2⟩ | ⟨b1, b2, b3⟩ | ⟨b1, b2, b3, b4⟩
        all_goals
          go_enter Tryd.func39, Tryd.ntmps39
          go_wp2
          go_ret
          exact ⟨rfl, (Below.refl _ _).alloc (Nat.le_refl _) _⟩
      · have hb' := hb
        simp only [not_or, Bool.not_eq_false] at hb'
        obtain ⟨hk, hv, ho⟩ := hb'
        have e1 : chk kind k v o = if v ≠ [] ∧ (kind = 1 ∨ kind = 4) then 4 else if o ≠ [] ∧ kind ≠ 5 then 4 else 0 := by rw [chk, if_neg hr, if_neg hb]
        have d1 : (1 : Int) ≤ k.length := by simp [isK] at hk; omega
        have d2 : (k.length : Int) ≤ 16 := by simp [isK] at hk; omega
        have d3 : (v.length : Int) ≤ 64 := by simp [isV] at hv; omega
        have d4 : (o.length : Int) ≤ 64 := by simp [isV] at ho; omega
        obtain ⟨c, hc⟩ : ∃ c, chk kind k v o = c := ⟨_, rfl⟩
        rw [hc]
        rw [e1] at hc
        clear e1 hb h1 h5 hr hk hv ho
        obtain rfl | rfl | rfl | rfl | rfl : kind = 1 ∨ kind = 2 ∨ kind = 3 ∨ kind = 4 ∨ kind = 5 := by omega
        all_goals
          clear h1' h5'
          by_cases v0 : v = []
          all_goals
            have hve := by first | exact emp_t v0 | exact emp_f v0
            by_cases o0 : o = []
            all_goals
              have hoe := by first | exact emp_t o0 | exact emp_f o0
              simp [*] at hc
              subst hc
              clear v0 o0
              go_enter Tryd.func39, Tryd.ntmps39
              go_wp2
              go_ret
              exact ⟨rfl, (Below.refl _ _).alloc (Nat.le_refl _) _⟩

end Go.Proofs.YtihilkdokfdoeaaDoor
