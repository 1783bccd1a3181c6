/- Chains: Check of configurations with many groups, walked. -/
import Derived.Test.YtfjbhljnledphaaGreatDoorChB
namespace Go.Proofs.YtfjbhljnledphaaGreatDoor
open Go.RowKit
attribute [local go_sem ↓] Go.wp_at_zero Go.wp_at_succ

set_option maxHeartbeats 1000000 in
theorem Index_wide (ns : List Int) (x : Int) (u : Value) (w : World) (hu : Il w u ns) (hl : ns.length ≤ 1000000) :
    Calls Tryz.prog 78 #[u, .int .i64 x] w fun e W' => e = .returned (.int .i64 (idxI ns x)) ∧ W' = w := by
  obtain ⟨a, c, rfl⟩ := hu.slice
  go_enter Tryz.func78, Tryz.ntmps78
  go_wp2_with fail
  go_loopg [8] ns.length (fun gk i wr => ∃ k : Nat, k + gk = ns.length ∧ i = .int .i64 k ∧ wr = w ∧ ∀ i t, i < k → ns[i]? = some t → x ≠ t)
  case atStart => exact ⟨0, by omega, rfl, rfl, fun i t hi => by omega⟩
  case round =>
    obtain ⟨k, hk, rfl, rfl, hno⟩ := hrel
    have hd := idxI_drop ns x k hno
    by_cases hlt : k < ns.length
    · obtain ⟨n, hn⟩ : ∃ n, ns[k]? = some n := ⟨_, List.getElem?_eq_getElem hlt⟩
      obtain ⟨b1, o1, rfl, hb1, x1⟩ := hu.at hn
      have k0 : (0 : Int) ≤ (k : Int) := by omega
      have k1 : (k : Int) < (ns.length : Int) := by omega
      have hnx : Hid (∀ i t, i < k + 1 → ns[i]? = some t → x ≠ n → x ≠ t) := by
        intro i t hi ht hxn
        by_cases e : i = k
        · subst e; rw [hn] at ht; cases ht; exact hxn
        · exact hno i t (by omega) ht
      have HD : Hid (x = n → idxI ns x = k) := fun e => hd.1 (by rw [e]; exact hn)
      clear hn hno hd hu
      by_cases hx : x = n
      · subst hx
        go_wp2
        go_ret
        exact ⟨by rw [(HD.out trivial : idxI ns x = k)]; rfl, rfl⟩
      · have hq : (x == n) = false := by simp [hx]
        go_wp2
        go_roundg (ns.length - (k + 1))
        case measure => omega
        case rel => exact ⟨k + 1, by omega, by go_num, rfl, fun i t hi ht => hnx.out i t hi ht hx⟩
    · have hkl : k = ns.length := by omega
      have HD : Hid (idxI ns x = -1) := hd.2 (by omega)
      clear hd hno
      subst hkl
      go_wp2
      go_ret
      exact ⟨by rw [HD.out]; rfl, rfl⟩
theorem Contains_wide (ns : List Int) (x : Int) (u : Value) (w : World) (hu : Il w u ns) (hl : ns.length ≤ 1000000) :
    Calls Tryz.prog 63 #[u, .int .i64 x] w fun e W' => e = .returned (.bool (isIn ns x)) ∧ W' = w := by
  have hI := Index_wide ns x u w hu hl
  rw [← idxI_mem]
  obtain ⟨a, c, rfl⟩ := hu.slice
  obtain ⟨m, hm⟩ : ∃ m, idxI ns x = m := ⟨_, rfl⟩
  rw [hm] at hI ⊢
  clear hm hu
  go_enter Tryz.func63, Tryz.ntmps63
  go_wp2_with (go_at_call 78; refine hI.mono ?_; rintro e w1 ⟨rfl, rfl⟩)
  go_ret
  exact ⟨rfl, rfl⟩
set_option maxHeartbeats 1000000 in
theorem areGroups_wide (ns : List Int) (u : Value) (w : World) (hu : Il w u ns) (hl : ns.length ≤ 1000000) :
    Calls Tryz.prog 42 #[u] w fun e W' => e = .returned (.bool (rise 0 ns)) ∧ W' = w := by
  obtain ⟨a, c, rfl⟩ := hu.slice
  go_enter Tryz.func42, Tryz.ntmps42
  go_wp2_with fail
  go_loopg [3, 8] ns.length (fun gk m i wr => ∃ (k : Nat) (l : Int), k + gk = ns.length ∧ i = .int .i64 k ∧ m = .int .i64 l ∧ wr = w ∧ rise 0 ns = rise l (ns.drop k))
  case atStart => exact ⟨0, 0, by omega, rfl, rfl, rfl, rfl⟩
  case round =>
    obtain ⟨k, l, hk, rfl, rfl, rfl, hr⟩ := hrel
    have HR : Hid (rise 0 ns = rise l (ns.drop k)) := hr
    clear hr
    by_cases hlt : k < ns.length
    · obtain ⟨n, hn⟩ : ∃ n, ns[k]? = some n := ⟨_, List.getElem?_eq_getElem hlt⟩
      obtain ⟨b1, o1, rfl, hb1, x1⟩ := hu.at hn
      have hdr : ns.drop k = n :: ns.drop (k + 1) := by
        rw [List.drop_eq_getElem_cons hlt]; congr 1
        rw [List.getElem?_eq_getElem hlt] at hn; exact Option.some.inj hn
      have HS : Hid (rise 0 ns = ((decide (l < n) && decide (n ≤ 4)) && rise n (ns.drop (k + 1)))) := by show _ = _; rw [HR.out, hdr]; rfl
      have k0 : (0 : Int) ≤ (k : Int) := by omega
      have k1 : (k : Int) < (ns.length : Int) := by omega
      clear hn hdr HR hu
      by_cases h1 : l < n
      · by_cases h2 : n ≤ 4
        · have HT : Hid (rise 0 ns = rise n (ns.drop (k + 1))) := by show _ = _; rw [HS.out]; simp [h1, h2]
          clear HS
          go_wp2
          go_roundg (ns.length - (k + 1))
          case measure => omega
          case rel => exact ⟨k + 1, n, by omega, by go_num, rfl, rfl, HT.out⟩
        · have HT : Hid (rise 0 ns = false) := by show _ = _; rw [HS.out]; simp [h2]
          clear HS
          have h3 : 4 < n := by omega
          go_wp2
          go_ret
          exact ⟨by rw [HT.out]; rfl, rfl⟩
      · have HT : Hid (rise 0 ns = false) := by show _ = _; rw [HS.out]; simp [h1]
        have h3 : n ≤ l := by omega
        clear HS h1
        go_wp2
        go_ret
        exact ⟨by rw [HT.out]; rfl, rfl⟩
    · have hkl : k = ns.length := by omega
      have HT : Hid (rise 0 ns = true) := by show _ = _; rw [HR.out, hkl, List.drop_length]; rfl
      clear HR
      subst hkl
      go_wp2
      go_ret
      exact ⟨by rw [HT.out]; rfl, rfl⟩
theorem mayOwn_wide (ns : List Int) (x : Int) (u : Value) (w : World) (hu : Il w u ns) (hl : ns.length ≤ 1000000) :
    Calls Tryz.prog 43 #[u, .int .i64 x] w fun e W' => e = .returned (.bool (ownB ns x)) ∧ W' = w := by
  have hI := Contains_wide ns x u w hu hl
  obtain ⟨a, c, rfl⟩ := hu.slice
  clear hu
  by_cases h0 : ns.length = 0
  · rw [show ownB ns x = (x == 0) by simp only [ownB, if_pos h0]]
    rw [h0] at hI ⊢
    go_enter Tryz.func43, Tryz.ntmps43
    go_wp2_with fail
    go_ret
    exact ⟨rfl, rfl⟩
  · rw [show ownB ns x = isIn ns x by simp only [ownB, if_neg h0]]
    have hq : ((ns.length : Int) == 0) = false := by rw [beq_eq_false_iff_ne]; omega
    go_enter Tryz.func43, Tryz.ntmps43
    go_wp2_with (go_at_call 63; refine hI.mono ?_; rintro e w1 ⟨rfl, rfl⟩)
    go_ret
    exact ⟨rfl, rfl⟩
set_option maxHeartbeats 2000000 in
theorem Check_wide (num : Int) (gv : Value) (ns : List Int) (a b c d : Int) (w : World) (hu : Il w gv ns) (hl : ns.length ≤ 1000000) :
    Calls Tryz.prog 13 #[.agg (cf num gv a b c d)] w fun e W' => e = .returned (.int .i64 (if okC num ns [a, b, c, d] = true then 0 else 4)) ∧ Below w.heap.size w W' := by
  have hb0 : Below w.heap.size w (w.alloc (.cells (cf num gv a b c d) 25)) := (Below.refl _ w).alloc (Nat.le_refl _) _
  have r0 := heap_alloc_new w (.cells (cf num gv a b c d) 25)
  obtain ⟨W0, hW0⟩ : ∃ W, w.alloc (.cells (cf num gv a b c d) 25) = W := ⟨_, rfl⟩
  have hu0 := hu.next hb0
  rw [hW0] at hb0 r0 hu0
  have hcell : ∀ W', Below W0.heap.size W0 W' → ∀ (k : Nat) t, [a, b, c, d][k]? = some t → W'.cell? ⟨w.heap.size, 2 + k, none⟩ = some (.int .i64 t) := by
    intro W' h k t ht
    have r' := (h.block w.heap.size (Array.getElem?_eq_some_iff.1 r0).1).trans r0
    exact cellB r' _ _ (cf_at num gv a b c d k t ht)
  have hcg : ∀ W', Below W0.heap.size W0 W' → W'.cell? ⟨w.heap.size, 1, none⟩ = some gv := by
    intro W' h
    have r' := (h.block w.heap.size (Array.getElem?_eq_some_iff.1 r0).1).trans r0
    exact cellB r' 1 _ rfl
  have c0 : W0.cell? ⟨w.heap.size, 0, none⟩ = some (.int .i64 num) := cellB r0 0 _ rfl
  have c1 := hcg W0 (Below.refl _ _)
  have hA := areGroups_wide ns gv W0 hu0 hl
  have HC : Hid (∀ W', Below W0.heap.size W0 W' → ∀ (k : Nat) t, [a, b, c, d][k]? = some t → W'.cell? ⟨w.heap.size, 2 + k, none⟩ = some (.int .i64 t)) := hcell
  have HG : Hid (∀ W', Below W0.heap.size W0 W' → W'.cell? ⟨w.heap.size, 1, none⟩ = some gv) := hcg
  have HW : Hid (w.alloc (.cells (cf num gv a b c d) 25) = W0) := hW0
  clear r0 hcell hcg hW0
  by_cases h1 : wi num 0 1099511627776 = true
  · by_cases h2 : rise 0 ns = true
    · rw [show okC num ns [a, b, c, d] = [a, b, c, d].all (ownB ns) by simp only [okC, h1, h2, Bool.true_and]]
      obtain ⟨os, ho⟩ : ∃ os, [a, b, c, d] = os := ⟨_, rfl⟩
      have hol : os.length = 4 := by rw [← ho]; rfl
      rw [ho] at HC ⊢
      rw [h2] at hA
      obtain ⟨pa, pc, rfl⟩ := hu.slice
      obtain ⟨R, hR⟩ : ∃ R : Int, (if os.all (ownB ns) = true then 0 else 4) = R := ⟨_, rfl⟩
      rw [hR]
      have HZ : Hid ((if os.all (ownB ns) = true then (0 : Int) else 4) = R) := hR
      clear ho h2 hR
      go_enter Tryz.func13, Tryz.ntmps13
      go_upto_region 1 with fail
      rw [HW.out]
      clear HW
      go_upto_region 4 with (first
        | (go_at_call 41; refine (within_any _ _ _ _).mono ?_; rintro e w1 ⟨rfl, h9⟩; subst w1)
        | (go_at_call 42; refine hA.mono ?_; rintro e w2 ⟨rfl, h9⟩; subst w2))
      clear hA
      go_loopg [14] 4 (fun gk i wr => ∃ k : Nat, k + gk = 4 ∧ i = .int .i64 k ∧ Below W0.heap.size W0 wr ∧ os.all (ownB ns) = (os.drop k).all (ownB ns))
      case atStart => exact ⟨0, by omega, rfl, Below.refl _ _, rfl⟩
      case round =>
        obtain ⟨k, hk, rfl, hB, hall⟩ := hrel
        have HA : Hid (os.all (ownB ns) = (os.drop k).all (ownB ns)) := hall
        clear hall c0 c1
        by_cases hlt : k < 4
        · obtain ⟨t, ht⟩ : ∃ t, os[k]? = some t := ⟨_, List.getElem?_eq_getElem (by omega)⟩
          have x1 := HC.out _ hB k t ht
          have x2 := HG.out _ hB
          have hM := fun n => mayOwn_wide ns t _ (wr.drewN n) (hu0.next (below_drewN hB n)) hl
          have hdr : os.drop k = t :: os.drop (k + 1) := by
            rw [List.drop_eq_getElem_cons (by omega)]; congr 1
            rw [List.getElem?_eq_getElem (by omega)] at ht; exact Option.some.inj ht
          have HS : Hid (os.all (ownB ns) = (ownB ns t && (os.drop (k + 1)).all (ownB ns))) := by show _ = _; rw [HA.out, hdr, List.all_cons]
          have k0 : (0 : Int) ≤ (k : Int) := by omega
          have k1 : (k : Int) < 4 := by omega
          have k2 : k < 4 := hlt
          clear hdr ht HA hu0 hu hol
          by_cases hq : ownB ns t = true
          · rw [hq] at hM
            have HT : Hid (os.all (ownB ns) = (os.drop (k + 1)).all (ownB ns)) := by show _ = _; rw [HS.out, hq, Bool.true_and]
            clear HS hq
            go_upto_region 6 with fail
            go_quiet (first | (go_at_call 43; refine Calls.quiet_of_same (hM _)))
            go_wp2
            go_roundg (4 - (k + 1))
            case measure => omega
            case rel => exact ⟨k + 1, by omega, by go_num, below_drewN hB _, HT.out⟩
          · have hq' : ownB ns t = false := by simpa using hq
            rw [hq'] at hM
            have HT : Hid (os.all (ownB ns) = false) := by show _ = _; rw [HS.out, hq', Bool.false_and]
            clear HS hq hq'
            go_upto_region 6 with fail
            go_quiet (first | (go_at_call 43; refine Calls.quiet_of_same (hM _)))
            go_wp2
            go_ret
            exact ⟨by rw [← HZ.out, HT.out]; rfl, hb0.trans ((below_drewN hB _).mono hb0.size)⟩
        · have hkl : k = 4 := by omega
          have HT : Hid (os.all (ownB ns) = true) := by show _ = _; rw [HA.out, hkl, ← hol, List.drop_length]; rfl
          clear HA
          subst hkl
          go_wp2
          go_ret
          exact ⟨by rw [← HZ.out, HT.out]; rfl, hb0.trans (hB.mono hb0.size)⟩
    · have h2' : rise 0 ns = false := by simpa using h2
      rw [show okC num ns [a, b, c, d] = false by simp only [okC, h1, h2', Bool.true_and, Bool.false_and]]
      rw [h2'] at hA
      obtain ⟨pa, pc, rfl⟩ := hu.slice
      clear h2 h2'
      go_enter Tryz.func13, Tryz.ntmps13
      go_upto_region 1 with fail
      rw [HW.out]
      clear HW
      go_wp2_with (first
        | (go_at_call 41; refine (within_any _ _ _ _).mono ?_; rintro e w1 ⟨rfl, h9⟩; subst w1)
        | (go_at_call 42; refine hA.mono ?_; rintro e w2 ⟨rfl, h9⟩; subst w2))
      go_ret
      exact ⟨rfl, hb0⟩
  · have h1' : wi num 0 1099511627776 = false := by simpa using h1
    rw [show okC num ns [a, b, c, d] = false by simp only [okC, h1', Bool.false_and]]
    obtain ⟨pa, pc, rfl⟩ := hu.slice
    clear h1
    go_enter Tryz.func13, Tryz.ntmps13
    go_upto_region 1 with fail
    rw [HW.out]
    clear HW
    go_wp2_with (first
      | (go_at_call 41; refine (within_any _ _ _ _).mono ?_; rintro e w1 ⟨rfl, h9⟩; subst w1))
    go_ret
    exact ⟨rfl, hb0⟩
end Go.Proofs.YtfjbhljnledphaaGreatDoor
