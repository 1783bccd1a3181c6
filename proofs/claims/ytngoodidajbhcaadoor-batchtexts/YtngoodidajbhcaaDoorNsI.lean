import Derived.Test.YtngoodidajbhcaaDoorNsH
namespace Go.Proofs.YtngoodidajbhcaaDoor
open Go.RowKit
attribute [local go_sem ↓] Go.wp_at_zero Go.wp_at_succ

theorem tot_take (l : List (List UInt8)) (k : Nat) (t : List UInt8) (h : l[k]? = some t) : tot (l.take (k + 1)) = tot (l.take k) + t.length := by
  rw [List.take_add_one, h, tot_append]
  simp [tot]

/-- Are texts more than are gone through? -/
def largeL (l : List (List UInt8)) : Bool := decide (20000 < tot l ∨ 2000 < l.length)

set_option maxHeartbeats 1000000 in
theorem Texts_any (a b : List (List UInt8)) (u v : Value) (w : World) (ha : a.length ≤ 140737488355328) (hb : b.length ≤ 140737488355328) (hu : Sl w u a) (hv : Sl w v b) :
    Calls Tryd.prog 9 #[u, v] w fun e w' => e = .returned (.bool (decide (a = b))) ∧ Below w.heap.size w w' := by
  obtain ⟨ua, uc, rfl⟩ := hu.slice
  obtain ⟨va, vc, rfl⟩ := hv.slice
  obtain ⟨R, hR⟩ : ∃ R, decide (a = b) = R := ⟨_, rfl⟩
  rw [hR]
  go_enter Tryd.func9, Tryd.ntmps9
  go_wp2
  go_loopw [8] (fun i wr => ∃ (k : Nat), i = .int .i64 k ∧ k ≤ a.length ∧ k ≤ b.length ∧ Hid (a.take k = b.take k) ∧ Below w.heap.size w wr)
    (fun i _ => a.length - lenOf i)
  case atStart => exact ⟨0, rfl, Nat.zero_le _, Nat.zero_le _, (show a.take 0 = b.take 0 from rfl), Below.refl _ _⟩
  case round =>
    obtain ⟨k, rfl, hk, hkb, hn, hB⟩ := hrel
    by_cases hk1 : k = a.length
    · subst hk1
      by_cases hlen : a.length = b.length
      · have hab : a = b := by
          have := hn.out
          rw [List.take_length, hlen, List.take_length] at this
          exact this
        have e : R = true := by rw [← hR]; simp [hab]
        clear hab
        go_wp2
        go_ret
        exact ⟨by rw [e]; rfl, hB⟩
      · have hab : ¬ a = b := fun h => hlen (by rw [h])
        have e : R = false := by rw [← hR]; simp [hab]
        clear hab
        go_wp2
        go_ret
        exact ⟨by rw [e]; simp; omega, hB⟩
    · have hk2 : k < a.length := by omega
      by_cases hk3 : k = b.length
      · have hab : ¬ a = b := fun h => by rw [h] at hk2; omega
        have e : R = false := by rw [← hR]; simp [hab]
        clear hab
        have hgd : decide ((b.length : Int) ≤ (k : Int)) = true := by simp; omega
        go_wp2
        go_quiet (fail)
        go_wp2
        go_ret
        exact ⟨by rw [e]; rfl, below_drewN hB _⟩
      · have hk4 : k < b.length := by omega
        obtain ⟨t, ht⟩ : ∃ t, a[k]? = some t := ⟨_, List.getElem?_eq_getElem hk2⟩
        obtain ⟨s, hs⟩ : ∃ s, b[k]? = some s := ⟨_, List.getElem?_eq_getElem hk4⟩
        rcases hu.below hB (Nat.le_refl _) with ⟨rfl, _⟩ | ⟨ub, uo, ucap, hue, _, huc⟩
        · cases ht
        rcases hv.below hB (Nat.le_refl _) with ⟨rfl, _⟩ | ⟨vb, vo, vcap, hve, _, hvc⟩
        · cases hs
        injection hue with hua _ hucap
        injection hve with hva _ hvcap
        subst hua hucap hva hvcap
        have hct := huc k t ht
        have hcs := hvc k s hs
        clear huc hvc
        by_cases hts : t = s
        · subst hts
          have htk : Hid (a.take (k + 1) = b.take (k + 1)) := by
            show a.take (k + 1) = b.take (k + 1)
            rw [List.take_add_one, List.take_add_one, hn.out, ht, hs]
          clear ht hs
          have hq : ((bs t).toList == (bs t).toList) = true := by simp
          have hgd : decide ((b.length : Int) ≤ (k : Int)) = false := by simp; omega
          go_wp2
          go_quiet (fail)
          go_wp2
          go_roundw
          case rel => exact ⟨k + 1, by rw [Int.natCast_succ], hk2, hk4, htk, below_drewN hB _⟩
          case measure => simp only [lenOf]; omega
        · have hab : ¬ a = b := fun h => hts (by rw [h, hs] at ht; injection ht with ht; exact ht.symm)
          have e : R = false := by rw [← hR]; simp [hab]
          clear ht hs hab
          have hq : ((bs t).toList == (bs s).toList) = false := str_ne fun h => hts (bs_inj h)
          have hgd : decide ((b.length : Int) ≤ (k : Int)) = false := by simp; omega
          go_wp2
          go_quiet (fail)
          go_wp2
          go_ret
          exact ⟨by rw [e]; rfl, below_drewN hB _⟩
end Go.Proofs.YtngoodidajbhcaaDoor
